/-
  Part 7 of the texts behind the theorem.
-/
import Derived.Test.YtddmjddlbhdcpaaGreatDoorPart6
import Derived.Test.YtddmjddlbhdcpaaGreatDoorPart1
import Derived.Test.YtddmjddlbhdcpaaGreatDoorPart5
import Derived.Laws.BitsAllLaws
import Derived.Great.BuildSlice
namespace Go.Proofs.YtddmjddlbhdcpaaGreatDoor
open Go.RowKit Go.Hold Go.Sh Go.Cm
@[go_sem] theorem bysA_ext (l:List Nat) (a b:Nat):(bysA l).extract a b=bysA ((l.drop a).take (b-a)):=by
 simp[bysA,bys,List.map_take,List.map_drop]
@[go_sem ↓] theorem loadAt_beta (v:Value):Instr.loadAt 27 v=loadRow 27 v:=rfl
set_option maxRecDepth 100000 in
@[go_sem] theorem run_load_beta (w:World) (n:Nat) (h1:w.isRow n=true) (h2:(w.rowOf n).size=160):(loadRow 27 (.pointer (some ⟨n,0,none⟩))).run Tryz.prog w=.ok (.agg (w.rowOf n)) w:=run_loadRow w Tryz.underlying27 rfl (by rw[h2];kernel_rfl) n h1 rfl
set_option maxRecDepth 100000 in
@[go_sem] theorem run_load_beta_0_192 (w:World) (n:Nat) (h1:w.isRow n=true) (h2:(w.rowOf n).size=192):(loadRow 27 (.pointer (some ⟨n,0,none⟩))).run Tryz.prog w=.ok (.agg ((w.rowOf n).extract 0 160)) w:=run_loadMid (k:=160) Tryz.underlying27 rfl (by kernel_rfl) w n h1 (by omega)
set_option maxRecDepth 100000 in
@[go_sem] theorem run_load_beta_32_192 (w:World) (n:Nat) (h1:w.isRow n=true) (h2:(w.rowOf n).size=192):(loadRow 27 (.pointer (some ⟨n,32,none⟩))).run Tryz.prog w=.ok (.agg ((w.rowOf n).extract 32 192)) w:=run_loadMid (k:=160) Tryz.underlying27 rfl (by kernel_rfl) w n h1 (by omega)
set_option maxRecDepth 100000 in
@[go_sem] theorem run_load_beta_32_208 (w:World) (n:Nat) (h1:w.isRow n=true) (h2:(w.rowOf n).size=208):(loadRow 27 (.pointer (some ⟨n,32,none⟩))).run Tryz.prog w=.ok (.agg ((w.rowOf n).extract 32 192)) w:=run_loadMid (k:=160) Tryz.underlying27 rfl (by kernel_rfl) w n h1 (by omega)
@[go_sem ↓] theorem build_beta (ps:Array (Nat × Value)):Instr.build 27 ps=bldA 27 ps:=rfl
@[go_sem ↓] theorem loadAt_wide (v:Value):Instr.loadAt 99 v=loadRow 99 v:=rfl
set_option maxRecDepth 100000 in
@[go_sem] theorem run_load_wide (w:World) (n:Nat) (h1:w.isRow n=true) (h2:(w.rowOf n).size=192):(loadRow 99 (.pointer (some ⟨n,0,none⟩))).run Tryz.prog w=.ok (.agg (w.rowOf n)) w:=run_loadRow w Tryz.underlying99 rfl (by rw[h2];kernel_rfl) n h1 rfl
@[go_sem ↓] theorem build_wide (ps:Array (Nat × Value)):Instr.build 99 ps=bldA 99 ps:=rfl
@[go_sem ↓] theorem loadAt_hdr (v:Value):Instr.loadAt 31 v=loadRow 31 v:=rfl
set_option maxRecDepth 100000 in
@[go_sem] theorem run_load_hdr (w:World) (n:Nat) (h1:w.isRow n=true) (h2:(w.rowOf n).size=208):(loadRow 31 (.pointer (some ⟨n,0,none⟩))).run Tryz.prog w=.ok (.agg (w.rowOf n)) w:=run_loadRow w Tryz.underlying31 rfl (by rw[h2];kernel_rfl) n h1 rfl
set_option maxRecDepth 100000 in
@[go_sem] theorem run_load_hdr_11_267 (w:World) (n:Nat) (h1:w.isRow n=true) (h2:(w.rowOf n).size=267):(loadRow 31 (.pointer (some ⟨n,11,none⟩))).run Tryz.prog w=.ok (.agg ((w.rowOf n).extract 11 219)) w:=run_loadMid (k:=208) Tryz.underlying31 rfl (by kernel_rfl) w n h1 (by omega)
@[go_sem ↓] theorem build_hdr (ps:Array (Nat × Value)):Instr.build 31 ps=bldA 31 ps:=rfl
@[go_sem ↓] theorem loadAt_hop (v:Value):Instr.loadAt 77 v=loadRow 77 v:=rfl
set_option maxRecDepth 100000 in
@[go_sem] theorem run_load_hop (w:World) (n:Nat) (h1:w.isRow n=true) (h2:(w.rowOf n).size=43):(loadRow 77 (.pointer (some ⟨n,0,none⟩))).run Tryz.prog w=.ok (.agg (w.rowOf n)) w:=run_loadRow w Tryz.underlying77 rfl (by rw[h2];kernel_rfl) n h1 rfl
@[go_sem ↓] theorem build_hop (ps:Array (Nat × Value)):Instr.build 77 ps=bldA 77 ps:=rfl
@[go_sem ↓] theorem loadAt_rhop (v:Value):Instr.loadAt 84 v=loadRow 84 v:=rfl
set_option maxRecDepth 100000 in
@[go_sem] theorem run_load_rhop (w:World) (n:Nat) (h1:w.isRow n=true) (h2:(w.rowOf n).size=43):(loadRow 84 (.pointer (some ⟨n,0,none⟩))).run Tryz.prog w=.ok (.agg (w.rowOf n)) w:=run_loadRow w Tryz.underlying84 rfl (by rw[h2];kernel_rfl) n h1 rfl
@[go_sem ↓] theorem build_rhop (ps:Array (Nat × Value)):Instr.build 84 ps=bldA 84 ps:=rfl
@[go_sem ↓] theorem loadAt_step (v:Value):Instr.loadAt 53 v=loadRow 53 v:=rfl
set_option maxRecDepth 100000 in
@[go_sem] theorem run_load_step (w:World) (n:Nat) (h1:w.isRow n=true) (h2:(w.rowOf n).size=267):(loadRow 53 (.pointer (some ⟨n,0,none⟩))).run Tryz.prog w=.ok (.agg (w.rowOf n)) w:=run_loadRow w Tryz.underlying53 rfl (by rw[h2];kernel_rfl) n h1 rfl
@[go_sem ↓] theorem build_step (ps:Array (Nat × Value)):Instr.build 53 ps=bldA 53 ps:=rfl
@[go_sem ↓] theorem loadAt_rhdr (v:Value):Instr.loadAt 40 v=loadRow 40 v:=rfl
set_option maxRecDepth 100000 in
@[go_sem] theorem run_load_rhdr (w:World) (n:Nat) (h1:w.isRow n=true) (h2:(w.rowOf n).size=49):(loadRow 40 (.pointer (some ⟨n,0,none⟩))).run Tryz.prog w=.ok (.agg (w.rowOf n)) w:=run_loadRow w Tryz.underlying40 rfl (by rw[h2];kernel_rfl) n h1 rfl
set_option maxRecDepth 100000 in
@[go_sem] theorem run_load_rhdr_11_108 (w:World) (n:Nat) (h1:w.isRow n=true) (h2:(w.rowOf n).size=108):(loadRow 40 (.pointer (some ⟨n,11,none⟩))).run Tryz.prog w=.ok (.agg ((w.rowOf n).extract 11 60)) w:=run_loadMid (k:=49) Tryz.underlying40 rfl (by kernel_rfl) w n h1 (by omega)
@[go_sem ↓] theorem build_rhdr (ps:Array (Nat × Value)):Instr.build 40 ps=bldA 40 ps:=rfl
@[go_sem ↓] theorem loadAt_rstep (v:Value):Instr.loadAt 59 v=loadRow 59 v:=rfl
set_option maxRecDepth 100000 in
@[go_sem] theorem run_load_rstep (w:World) (n:Nat) (h1:w.isRow n=true) (h2:(w.rowOf n).size=108):(loadRow 59 (.pointer (some ⟨n,0,none⟩))).run Tryz.prog w=.ok (.agg (w.rowOf n)) w:=run_loadRow w Tryz.underlying59 rfl (by rw[h2];kernel_rfl) n h1 rfl
@[go_sem ↓] theorem build_rstep (ps:Array (Nat × Value)):Instr.build 59 ps=bldA 59 ps:=rfl
set_option maxRecDepth 100000 in
@[go_sem] theorem run_load_key_0_208 (w:World) (n:Nat) (h1:w.isRow n=true) (h2:(w.rowOf n).size=208):(loadRow 23 (.pointer (some ⟨n,0,none⟩))).run Tryz.prog w=.ok (.agg ((w.rowOf n).extract 0 32)) w:=run_loadMid (k:=32) Tryz.underlying23 rfl (by kernel_rfl) w n h1 (by omega)
set_option maxRecDepth 100000 in
@[go_sem] theorem run_load_key_0_43 (w:World) (n:Nat) (h1:w.isRow n=true) (h2:(w.rowOf n).size=43):(loadRow 23 (.pointer (some ⟨n,0,none⟩))).run Tryz.prog w=.ok (.agg ((w.rowOf n).extract 0 32)) w:=run_loadMid (k:=32) Tryz.underlying23 rfl (by kernel_rfl) w n h1 (by omega)
set_option maxRecDepth 100000 in
@[go_sem] theorem run_load_key_219_267 (w:World) (n:Nat) (h1:w.isRow n=true) (h2:(w.rowOf n).size=267):(loadRow 23 (.pointer (some ⟨n,219,none⟩))).run Tryz.prog w=.ok (.agg ((w.rowOf n).extract 219 251)) w:=run_loadMid (k:=32) Tryz.underlying23 rfl (by kernel_rfl) w n h1 (by omega)
set_option maxRecDepth 100000 in
@[go_sem] theorem run_load_key_0_49 (w:World) (n:Nat) (h1:w.isRow n=true) (h2:(w.rowOf n).size=49):(loadRow 23 (.pointer (some ⟨n,0,none⟩))).run Tryz.prog w=.ok (.agg ((w.rowOf n).extract 0 32)) w:=run_loadMid (k:=32) Tryz.underlying23 rfl (by kernel_rfl) w n h1 (by omega)
set_option maxRecDepth 100000 in
@[go_sem] theorem run_load_key_60_108 (w:World) (n:Nat) (h1:w.isRow n=true) (h2:(w.rowOf n).size=108):(loadRow 23 (.pointer (some ⟨n,60,none⟩))).run Tryz.prog w=.ok (.agg ((w.rowOf n).extract 60 92)) w:=run_loadMid (k:=32) Tryz.underlying23 rfl (by kernel_rfl) w n h1 (by omega)
set_option maxRecDepth 100000 in
@[go_sem] theorem run_load_tag_192_208 (w:World) (n:Nat) (h1:w.isRow n=true) (h2:(w.rowOf n).size=208):(loadRow 29 (.pointer (some ⟨n,192,none⟩))).run Tryz.prog w=.ok (.agg ((w.rowOf n).extract 192 208)) w:=run_loadMid (k:=16) Tryz.underlying29 rfl (by kernel_rfl) w n h1 (by omega)
set_option maxRecDepth 100000 in
@[go_sem] theorem run_load_tag_251_267 (w:World) (n:Nat) (h1:w.isRow n=true) (h2:(w.rowOf n).size=267):(loadRow 29 (.pointer (some ⟨n,251,none⟩))).run Tryz.prog w=.ok (.agg ((w.rowOf n).extract 251 267)) w:=run_loadMid (k:=16) Tryz.underlying29 rfl (by kernel_rfl) w n h1 (by omega)
set_option maxRecDepth 100000 in
@[go_sem] theorem run_load_tag_33_49 (w:World) (n:Nat) (h1:w.isRow n=true) (h2:(w.rowOf n).size=49):(loadRow 29 (.pointer (some ⟨n,33,none⟩))).run Tryz.prog w=.ok (.agg ((w.rowOf n).extract 33 49)) w:=run_loadMid (k:=16) Tryz.underlying29 rfl (by kernel_rfl) w n h1 (by omega)
set_option maxRecDepth 100000 in
@[go_sem] theorem run_load_tag_92_108 (w:World) (n:Nat) (h1:w.isRow n=true) (h2:(w.rowOf n).size=108):(loadRow 29 (.pointer (some ⟨n,92,none⟩))).run Tryz.prog w=.ok (.agg ((w.rowOf n).extract 92 108)) w:=run_loadMid (k:=16) Tryz.underlying29 rfl (by kernel_rfl) w n h1 (by omega)
set_option maxRecDepth 100000 in
@[go_sem] theorem run_load_tag_16_192 (w:World) (n:Nat) (h1:w.isRow n=true) (h2:(w.rowOf n).size=192):(loadRow 29 (.pointer (some ⟨n,16,none⟩))).run Tryz.prog w=.ok (.agg ((w.rowOf n).extract 16 32)) w:=run_loadMid (k:=16) Tryz.underlying29 rfl (by kernel_rfl) w n h1 (by omega)
set_option maxRecDepth 100000 in
@[go_sem] theorem run_load_b16_0_192 (w:World) (n:Nat) (h1:w.isRow n=true) (h2:(w.rowOf n).size=192):(loadRow 28 (.pointer (some ⟨n,0,none⟩))).run Tryz.prog w=.ok (.agg ((w.rowOf n).extract 0 16)) w:=run_loadMid (k:=16) Tryz.underlying28 rfl (by kernel_rfl) w n h1 (by omega)
set_option maxRecDepth 100000 in
@[go_sem] theorem run_load_cmd_32_43 (w:World) (n:Nat) (h1:w.isRow n=true) (h2:(w.rowOf n).size=43):(loadRow 51 (.pointer (some ⟨n,32,none⟩))).run Tryz.prog w=.ok (.agg ((w.rowOf n).extract 32 43)) w:=run_loadMid (k:=11) Tryz.underlying51 rfl (by kernel_rfl) w n h1 (by omega)
set_option maxRecDepth 100000 in
@[go_sem] theorem run_load_cmd_0_267 (w:World) (n:Nat) (h1:w.isRow n=true) (h2:(w.rowOf n).size=267):(loadRow 51 (.pointer (some ⟨n,0,none⟩))).run Tryz.prog w=.ok (.agg ((w.rowOf n).extract 0 11)) w:=run_loadMid (k:=11) Tryz.underlying51 rfl (by kernel_rfl) w n h1 (by omega)
set_option maxRecDepth 100000 in
@[go_sem] theorem run_load_rcmd_32_43 (w:World) (n:Nat) (h1:w.isRow n=true) (h2:(w.rowOf n).size=43):(loadRow 57 (.pointer (some ⟨n,32,none⟩))).run Tryz.prog w=.ok (.agg ((w.rowOf n).extract 32 43)) w:=run_loadMid (k:=11) Tryz.underlying57 rfl (by kernel_rfl) w n h1 (by omega)
set_option maxRecDepth 100000 in
@[go_sem] theorem run_load_rcmd_0_108 (w:World) (n:Nat) (h1:w.isRow n=true) (h2:(w.rowOf n).size=108):(loadRow 57 (.pointer (some ⟨n,0,none⟩))).run Tryz.prog w=.ok (.agg ((w.rowOf n).extract 0 11)) w:=run_loadMid (k:=11) Tryz.underlying57 rfl (by kernel_rfl) w n h1 (by omega)
@[go_sem ↓] theorem build_tag (ps:Array (Nat × Value)):Instr.build 29 ps=bldA 29 ps:=rfl
@[go_sem ↓] theorem loadAt_rcmd' (v:Value):Instr.loadAt 57 v=loadRow 57 v:=rfl
set_option maxRecDepth 100000 in
@[go_sem] theorem run_bld0_beta (w:World):(bldA 27 #[]).run Tryz.prog w=.ok (.agg (bysA (zs 160))) w:=run_build w _ _ _ (by kernel_rfl)
set_option maxRecDepth 100000 in
@[go_sem] theorem run_bld0_wide (w:World):(bldA 99 #[]).run Tryz.prog w=.ok (.agg (bysA (zs 192))) w:=run_build w _ _ _ (by kernel_rfl)
set_option maxRecDepth 100000 in
@[go_sem] theorem run_bld0_hdr (w:World):(bldA 31 #[]).run Tryz.prog w=.ok (.agg (bysA (zs 208))) w:=run_build w _ _ _ (by kernel_rfl)
set_option maxRecDepth 100000 in
@[go_sem] theorem run_bld0_tag (w:World):(bldA 29 #[]).run Tryz.prog w=.ok (.agg (bysA (zs 16))) w:=run_build w _ _ _ (by kernel_rfl)
set_option maxRecDepth 100000 in
@[go_sem] theorem zc_beta:Tryz.zeroCells27=bysA (zs 160):=by kernel_rfl
set_option maxRecDepth 100000 in
@[go_sem] theorem zc_wide:Tryz.zeroCells99=bysA (zs 192):=by kernel_rfl
set_option maxRecDepth 100000 in
@[go_sem] theorem zc_hdr:Tryz.zeroCells31=bysA (zs 208):=by kernel_rfl
theorem cells_bys (l:List Nat):(Value.agg (bysA l)).cells.toList=bys l:=by simp[Value.cells,bysA]
theorem bys_app (l m:List Nat):bys l++bys m=bys (l++m):=by simp[bys]
set_option maxRecDepth 100000 in
theorem run_bldHdr {a b g:List Nat} (ha:a.length=32) (hb:b.length=160) (hg:g.length=16) (w:World):(bldA 31 #[(0,.agg (bysA a)),(1,.agg (bysA b)),(2,.agg (bysA g))]).run Tryz.prog w=.ok (.agg (bysA (a++b++g))) w:=by
 have sa:(bysA a).size=32:=by rw[bysA_size,ha]
 have sb:(bysA b).size=160:=by rw[bysA_size,hb]
 have sg:(bysA g).size=16:=by rw[bysA_size,hg]
 have hc:(cellsAll [.agg (bysA a),.agg (bysA b),.agg (bysA g)])=bys (a++b++g):=by
  show (Value.agg (bysA a)).cells.toList++((Value.agg (bysA b)).cells.toList++((Value.agg (bysA g)).cells.toList++[]))=_
  rw[cells_bys,cells_bys,cells_bys,List.append_nil,bys_app,bys_app,List.append_assoc]
 have:=run_build_all (P:=Tryz.prog) Tryz.underlying31 w [.agg (bysA a),.agg (bysA b),.agg (bysA g)]
  (by rw[hc,bys_length,List.length_append,List.length_append,ha,hb,hg];kernel_rfl)
  (by simp only[offs,Value.cells,sa,sb,sg];kernel_rfl) #[(0,.agg (bysA a)),(1,.agg (bysA b)),(2,.agg (bysA g))] rfl
 rw[hc] at this
 exact this
theorem results_hdr2 {fn:Func} {p p' p'':Tmp} {cs:Array Value} {v u:Value} (h:fn.results=#[.cell p 31,.tmp p',.tmp p'']) (hc:cs.size=208) (w:World) (tmps:Array Value) (n:Nat) (hp:tmps.getD p undef=.pointer (some ⟨n,0,none⟩)) (h1:w.isRow n=true) (h2:w.rowOf n=cs) (hp':tmps.getD p' undef=v) (hp'':tmps.getD p'' undef=u) :
  (results fn tmps).run Tryz.prog w=.ok (.tuple #[.agg cs,v,u]) w:=by
 obtain⟨s,hs⟩:=World.isRow_spec h1
 rw[h2] at hs
 have e:tmps[p]?.getD undef=.pointer (some ⟨n,0,none⟩):=by simpa using hp
 have e':tmps[p']?.getD undef=v:=by simpa using hp'
 have e'':tmps[p'']?.getD undef=u:=by simpa using hp''
 simp[results,h,e,e',e'',asAddr,run_loadVar_row w n s 31 cs (0,0) _ hs Tryz.underlying31 rfl (by rw[hc];kernel_rfl)]
theorem results_wide {fn:Func} {p:Tmp} {cs:Array Value} (h:fn.results=#[.cell p 99]) (hc:cs.size=192) (w:World) (tmps:Array Value) (n:Nat) (hp:tmps.getD p undef=.pointer (some ⟨n,0,none⟩)) (h1:w.isRow n=true) (h2:w.rowOf n=cs):(results fn tmps).run Tryz.prog w=.ok (.agg cs) w :=
 results_row w h Tryz.underlying99 rfl (by rw[hc];kernel_rfl) tmps n hp h1 h2
theorem results_beta {fn:Func} {p:Tmp} {cs:Array Value} (h:fn.results=#[.cell p 27]) (hc:cs.size=160) (w:World) (tmps:Array Value) (n:Nat) (hp:tmps.getD p undef=.pointer (some ⟨n,0,none⟩)) (h1:w.isRow n=true) (h2:w.rowOf n=cs):(results fn tmps).run Tryz.prog w=.ok (.agg cs) w :=
 results_row w h Tryz.underlying27 rfl (by rw[hc];kernel_rfl) tmps n hp h1 h2
theorem results_hdr_slot {fn:Func} {p p':Tmp} {cs:Array Value} {v:Value} (h:fn.results=#[.cell p 31,.tmp p']) (hc:cs.size=208) (w:World) (tmps:Array Value) (n:Nat) (hp:tmps.getD p undef=.pointer (some ⟨n,0,none⟩)) (h1:w.isRow n=true) (h2:w.rowOf n=cs) (hx:tmps.getD p' undef=v):(results fn tmps).run Tryz.prog w=.ok (.tuple #[.agg cs,v]) w :=
 results_row_slot w h Tryz.underlying31 rfl (by rw[hc];kernel_rfl) tmps n hp h1 h2 hx
theorem results_step_slot {fn:Func} {p p':Tmp} {cs:Array Value} {v:Value} (h:fn.results=#[.cell p 53,.tmp p']) (hc:cs.size=267) (w:World) (tmps:Array Value) (n:Nat) (hp:tmps.getD p undef=.pointer (some ⟨n,0,none⟩)) (h1:w.isRow n=true) (h2:w.rowOf n=cs) (hx:tmps.getD p' undef=v):(results fn tmps).run Tryz.prog w=.ok (.tuple #[.agg cs,v]) w :=
 results_row_slot w h Tryz.underlying53 rfl (by rw[hc];kernel_rfl) tmps n hp h1 h2 hx
theorem results_rhdr {fn:Func} {p:Tmp} {cs:Array Value} (h:fn.results=#[.cell p 40]) (hc:cs.size=49) (w:World) (tmps:Array Value) (n:Nat) (hp:tmps.getD p undef=.pointer (some ⟨n,0,none⟩)) (h1:w.isRow n=true) (h2:w.rowOf n=cs):(results fn tmps).run Tryz.prog w=.ok (.agg cs) w :=
 results_row w h Tryz.underlying40 rfl (by rw[hc];kernel_rfl) tmps n hp h1 h2
theorem results_rhdrS_slot {fn:Func} {p p':Tmp} {cs:Array Value} {v:Value} (h:fn.results=#[.cell p 40,.tmp p']) (hc:cs.size=49) (w:World) (tmps:Array Value) (n:Nat) (hp:tmps.getD p undef=.pointer (some ⟨n,0,none⟩)) (h1:w.isRow n=true) (h2:w.rowOf n=cs) (hx:tmps.getD p' undef=v):(results fn tmps).run Tryz.prog w=.ok (.tuple #[.agg cs,v]) w :=
 results_row_slot w h Tryz.underlying40 rfl (by rw[hc];kernel_rfl) tmps n hp h1 h2 hx
def arr_beta (v:Value):Sem Value:=Instr.arrayAt 27 v
@[go_sem ↓] theorem fold_arr_beta (v:Value):Instr.arrayAt 27 v=arr_beta v:=rfl
@[go_sem] theorem run_arr_beta (b o cap:Nat) (w:World):(arr_beta (.slice (some ⟨b,o,none⟩) 160 cap)).run Tryz.prog w=.ok (.pointer (some ⟨b,o,none⟩)) w:=by
 unfold arr_beta
 simp[Instr.arrayAt,run_underlying Tryz.underlying27]
def arr_b16 (v:Value):Sem Value:=Instr.arrayAt 28 v
@[go_sem ↓] theorem fold_arr_b16 (v:Value):Instr.arrayAt 28 v=arr_b16 v:=rfl
@[go_sem] theorem run_arr_b16 (b o cap:Nat) (w:World):(arr_b16 (.slice (some ⟨b,o,none⟩) 16 cap)).run Tryz.prog w=.ok (.pointer (some ⟨b,o,none⟩)) w:=by
 unfold arr_b16
 simp[Instr.arrayAt,run_underlying Tryz.underlying28]
def arr_tag (v:Value):Sem Value:=Instr.arrayAt 29 v
@[go_sem ↓] theorem fold_arr_tag (v:Value):Instr.arrayAt 29 v=arr_tag v:=rfl
@[go_sem] theorem run_arr_tag (b o cap:Nat) (w:World):(arr_tag (.slice (some ⟨b,o,none⟩) 16 cap)).run Tryz.prog w=.ok (.pointer (some ⟨b,o,none⟩)) w:=by
 unfold arr_tag
 simp[Instr.arrayAt,run_underlying Tryz.underlying29]
def hopA (k:List Nat) (c:Cmd):Array Value:=bysA k++cmdA c
theorem hopA_size {k:List Nat} {c:Cmd} (hk:k.length=32) (hc:c.id.length=8):(hopA k c).size=43:=by simp[hopA,bysA_size,hk,cmdA_size hc]
@[go_sem] theorem hopA_key (k:List Nat) (c:Cmd) (hk:k.length=32):(hopA k c).extract 0 32=bysA k:=by
 unfold hopA
 have:(bysA k).size=32:=by rw[bysA_size,hk]
 rw[←this,Array.extract_append_left]
 simp
@[go_sem] theorem hopA_cmd (k:List Nat) (c:Cmd) (hk:k.length=32) (hc:c.id.length=8):(hopA k c).extract 32 43=cmdA c:=by
 unfold hopA
 have h1:(bysA k).size=32:=by rw[bysA_size,hk]
 have h2:(cmdA c).size=11:=cmdA_size hc
 rw[show (43:Nat)=32+(cmdA c).size by omega,←h1]
 simp
@[go_sem] theorem hopA_one (k:List Nat) (c:Cmd):oneAll (hopA k c)=true:=by
 have h1:=bysA_one k
 have h2:=cmdA_one c
 unfold oneAll hopA at *
 rw[Array.all_append,h1,h2];rfl
end Go.Proofs.YtddmjddlbhdcpaaGreatDoor

namespace Go.Proofs.YtddmjddlbhdcpaaGreatDoor
open Go.ChangeShapes Go.WideShapes Go.ChangeAt Go.RowKit Go.Sh
set_option maxRecDepth 100000 in
theorem hdr_of_trod {H:Type} {enc:TypeId × Value→H} {w:World} {base:Nat} {spare:Nat→Bool} {held:Bool} {fuel:Nat} {cs:List Value} {x:DataW H × List MemPlace}
  (hf:DataW.trod enc Tryz.prog w base spare held fuel 31 cs=some x):∃ l:List Nat,cs=bys l∧l.length=208∧∀ i,l.getD i 0<256:=by
 have hc0:Tryz.prog.cellsOf 23=32:=by kernel_rfl
 have hc1:Tryz.prog.cellsOf 27=160:=by kernel_rfl
 have hc2:Tryz.prog.cellsOf 29=16:=by kernel_rfl
 have hca:Tryz.prog.cellsOf 31=208:=by kernel_rfl
 obtain⟨xs,n,_,_,hl,hxl,hx⟩:=DataW.trod_struct Tryz.underlying31 hf
 rw[hca] at hl
 have hxl3:xs.length=3:=by rw[hxl];rfl
 have h0:DataW.trod enc Tryz.prog w base spare held n 23 ((cs.drop 0).take (Tryz.prog.cellsOf 23))=xs[0]?:=hx 0 _ rfl
 have h1:DataW.trod enc Tryz.prog w base spare held n 27 ((cs.drop 32).take (Tryz.prog.cellsOf 27))=xs[1]?:=hx 1 _ rfl
 have h2:DataW.trod enc Tryz.prog w base spare held n 29 ((cs.drop 192).take (Tryz.prog.cellsOf 29))=xs[2]?:=hx 2 _ rfl
 rw[hc0] at h0
 rw[hc1] at h1
 rw[hc2] at h2
 rw[List.getElem?_eq_getElem (by omega)] at h0 h1 h2
 obtain⟨a,e0,ha,hab⟩:=arr_of_trod Tryz.underlying23 hc0 h0
 obtain⟨b,e1,hb,hbb⟩:=arr_of_trod Tryz.underlying27 hc1 h1
 obtain⟨g,e2,hg,hgb⟩:=arr_of_trod Tryz.underlying29 hc2 h2
 refine⟨a++b++g,?_,by rw[List.length_append,List.length_append,ha,hb,hg],bts_app (bts_app hab hbb) hgb⟩
 rw[←bys_app,←bys_app,←e0,←e1,←e2,List.drop_zero,List.take_of_length_le (l:=cs.drop 192) (by rw[List.length_drop,hl];decide),List.append_assoc,show cs.drop 192=(cs.drop 32).drop 160 by rw[List.drop_drop],List.take_append_drop,List.take_append_drop]
set_option maxRecDepth 100000 in
theorem open_hdr {H:Type} {enc:TypeId × Value→H} {w:World} {r:Reach} {b0 base:Nat} {spare:Nat→Bool} {held:Bool} {v:Value} {d:DataW H} {p:List MemPlace}
  (hv:Value.okWide Tryz.prog w r b0 31 v) (h:DataW.Trod enc Tryz.prog w base spare held 31 v d p):∃ l:List Nat,v=.agg (bysA l)∧l.length=208∧∀ i,l.getD i 0<256:=by
 obtain⟨cs,rfl,_⟩:=okWide_struct Tryz.underlying31 hv
 obtain⟨fuel,hf⟩:=h
 obtain⟨l,ha,hok⟩:=hdr_of_trod hf
 refine⟨l,?_,hok⟩
 have:cs.toList=(bysA l).toList:=by simpa [Value.cells,bysA] using ha
 rw[Array.toList_inj.1 this]
end Go.Proofs.YtddmjddlbhdcpaaGreatDoor

namespace Go.Ch
open Go Go.Sh
def rl (x:Int) (n:Nat):Int:=rotr x (32-n)
structure Q4 where
 (a b c d:Int)
def qr (a b c d:Int):Q4 :=
 let a1:=add32 a b
 let d1:=rl (x32 d a1) 16
 let c1:=add32 c d1
 let b1:=rl (x32 b c1) 12
 let a2:=add32 a1 b1
 let d2:=rl (x32 d1 a2) 8
 let c2:=add32 c1 d2
 let b2:=rl (x32 b1 c2) 7
 ⟨a2,b2,c2,d2⟩
def quart (s:List Int) (i j k l:Nat):List Int :=
 let q:=qr (s.getD i 0) (s.getD j 0) (s.getD k 0) (s.getD l 0)
 (((s.set i q.a).set j q.b).set k q.c).set l q.d
theorem quart_length (s:List Int) (i j k l:Nat):(quart s i j k l).length=s.length:=by simp[quart]
def cols (s:List Int):Nat→List Int
 | 0=>s
 | n+1=>quart (cols s n) n (4+n) (8+n) (12+n)
def dias (s:List Int):Nat→List Int
 | 0=>s
 | n+1=>quart (dias s n) n (4+(n+1)%4) (8+(n+2)%4) (12+(n+3)%4)
theorem cols_length (s:List Int) (n:Nat):(cols s n).length=s.length:=by
 induction n with
 | zero=>rfl
 | succ n ih=>rw[cols,quart_length,ih]
theorem dias_length (s:List Int) (n:Nat):(dias s n).length=s.length:=by
 induction n with
 | zero=>rfl
 | succ n ih=>rw[dias,quart_length,ih]
def drnd (s:List Int):List Int:=dias (cols s 4) 4
theorem drnd_length (s:List Int):(drnd s).length=s.length:=by unfold drnd;rw[dias_length,cols_length]
def drnds (s:List Int):Nat→List Int
 | 0=>s
 | n+1=>drnd (drnds s n)
theorem drnds_length (s:List Int) (n:Nat):(drnds s n).length=s.length:=by
 induction n with
 | zero=>rfl
 | succ n ih=>rw[drnds,drnd_length,ih]
def pkl (b:List Nat) (j:Nat):Nat→Nat
 | 0=>0
 | m+1=>if m<4 then pkl b j m+b.getD (4*j+m) 0*256^m else pkl b j m
theorem pkl_top (b:List Nat) (j m:Nat) (h:4≤m):pkl b j m=pkl b j 4:=by
 induction m with
 | zero=>omega
 | succ m ih =>
  by_cases h4:m<4
  ·obtain rfl:m=3:=by omega
   rfl
  ·rw[pkl,if_neg h4];exact ih (by omega)
theorem pkl_lt (b:List Nat) (hb:∀ i,b.getD i 0<256) (j m:Nat):pkl b j m<256^m:=by
 induction m with
 | zero=>simp[pkl]
 | succ m ih =>
  rw[pkl,Nat.pow_succ]
  have h1:b.getD (4*j+m) 0*256^m≤255*256^m:=Nat.mul_le_mul_right _ (by have:=hb (4*j+m);omega)
  split<;>omega
def wd (b:List Nat) (j:Nat):Int:=(pkl b j 4:Nat)
def wput (s:List Int) (a:Nat) (b:List Nat) (i:Nat):List Int:=(List.range 16).map fun j=>if j<a then s.getD j 0 else ((pkl b (j-a) (i-4*(j-a)):Nat):Int)
theorem wput_length (s:List Int) (a:Nat) (b:List Nat) (i:Nat):(wput s a b i).length=16:=by simp[wput]
theorem wput_get (s:List Int) (a:Nat) (b:List Nat) (i j:Nat) (h:j<16):(wput s a b i)[j]?=some (if j<a then s.getD j 0 else ((pkl b (j-a) (i-4*(j-a)):Nat):Int)):=by simp[wput,h]
theorem wput_zero (s:List Int) (a:Nat) (b:List Nat) (hs:s.length=16) (hz:∀ j,a≤j→s.getD j 0=0):wput s a b 0=s:=by
 apply List.ext_getElem?
 intro j
 by_cases h:j<16
 ·rw[wput_get _ _ _ _ _ h,List.getElem?_eq_getElem (by omega)]
  congr 1
  by_cases ha:j<a
  ·rw[if_pos ha];simp[List.getD,hs,h]
  ·rw[if_neg ha,Nat.zero_sub]
   have:=hz j (by omega)
   simp only[List.getD,List.getElem?_eq_getElem (show j<s.length by omega),Option.getD_some] at this
   rw[this];rfl
 ·rw[List.getElem?_eq_none (by rw[wput_length];omega),List.getElem?_eq_none (by omega)]
theorem wput_set (s:List Int) (a:Nat) (b:List Nat) (i:Nat) (h:a+i/4<16):(wput s a b i).set (a+i/4) ((pkl b (i/4) (i%4+1):Nat):Int)=wput s a b (i+1):=by
 apply List.ext_getElem?
 intro j
 rw[List.getElem?_set]
 by_cases hj:j<16
 ·rw[wput_get _ _ _ _ _ hj,wput_get _ _ _ _ _ hj]
  by_cases e:a+i/4=j
  ·subst e
   rw[if_pos rfl,if_pos (by rw[wput_length];omega),if_neg (by omega),show a+i/4-a=i/4 by omega,show i+1-4*(i/4)=i%4+1 by omega]
  ·rw[if_neg e]
   by_cases ha:j<a
   ·rw[if_pos ha,if_pos ha]
   ·rw[if_neg ha,if_neg ha]
    congr 2
    by_cases h1:j-a<i/4
    ·rw[pkl_top _ _ _ (by omega),pkl_top _ _ (i+1-4*(j-a)) (by omega)]
    ·rw[show i+1-4*(j-a)=0 by omega,show i-4*(j-a)=0 by omega]
 ·rw[if_neg (by omega),List.getElem?_eq_none (by rw[wput_length];omega),List.getElem?_eq_none (by rw[wput_length];omega)]
theorem byte_on (x y m:Nat) (hx:x<256^m) (hy:y<256) (hm:m<4):o32 (x:Int) ((y:Int)*2^(m*8)%4294967296)=((x+y*256^m:Nat):Int):=by
 have e:256^m=2^(m*8):=by rw[show (256:Nat)=2^8 by decide,←Nat.pow_mul,Nat.mul_comm]
 have h4:256^m≤16777216:=Nat.le_trans (Nat.pow_le_pow_right (by decide) (show m≤3 by omega)) (by decide)
 have h1:y*256^m≤255*256^m:=Nat.mul_le_mul_right _ (by omega)
 have e2:(y:Int)*2^(m*8)%4294967296=((y*256^m:Nat):Int):=by
  rw[show ((2:Int)^(m*8))=((256^m:Nat):Int) by rw[e];simp]
  omega
 unfold o32
 rw[e2,u32_or_nat _ _ (by omega) (by omega)]
 congr 1
 have:=Nat.shiftLeft_add_eq_or_of_lt (b:=x) (i:=m*8) (by rw[←e];exact hx) y
 rw[Nat.shiftLeft_eq,←e] at this
 rw[Nat.or_comm,←this,Nat.add_comm]
theorem wput_step (b:List Nat) (hb:∀ i,b.getD i 0<256) (i:Nat) :
  o32 ((pkl b (i/4) (i%4):Nat):Int) (((b.getD i 0:Nat):Int)*2^(i%4*8)%4294967296)=((pkl b (i/4) (i%4+1):Nat):Int):=by
 rw[byte_on _ _ _ (pkl_lt b hb _ _) (hb i) (by omega),pkl,if_pos (by omega),show 4*(i/4)+i%4=i by omega]
def cst:List Int:=[1634760805,857760878,2036477234,1797285236]
def fst (k n:List Nat) (c:Int):List Int:=cst++(List.range 8).map (wd k)++[c]++(List.range 3).map (wd n)
theorem fst_length (k n:List Nat) (c:Int):(fst k n c).length=16:=by simp[fst,cst]
theorem fst_get (k n:List Nat) (c:Int) (j:Nat) (h:j<16):(fst k n c)[j]?=some (if j<4 then cst.getD j 0 else if j<12 then wd k (j-4) else if j=12 then c else wd n (j-13)):=by
 have hc:cst.length=4:=rfl
 unfold fst
 by_cases h1:j<4
 ·rw[if_pos h1,List.append_assoc,List.append_assoc,List.getElem?_append_left (by omega),List.getElem?_eq_getElem (by omega)]
  simp[List.getD,hc,h1]
 ·rw[if_neg h1]
  by_cases h2:j<12
  ·rw[if_pos h2,List.append_assoc,List.getElem?_append_left (by simp;omega),List.getElem?_append_right (by omega),hc,List.getElem?_map,List.getElem?_range (by omega)]
   rfl
  ·rw[if_neg h2]
   by_cases h3:j=12
   ·subst h3
    rw[if_pos rfl,List.getElem?_append_left (by simp;omega),List.getElem?_append_right (by simp;omega)]
    simp[hc]
   ·have e:(cst++(List.range 8).map (wd k)++[c]).length=13:=by simp[hc]
    rw[if_neg h3,List.getElem?_append_right (by omega),e,List.getElem?_map,List.getElem?_range (by omega)]
    rfl
def cst0:List Int:=cst++List.replicate 12 0
theorem cst0_length:cst0.length=16:=rfl
theorem cst0_zero (j:Nat) (h:4≤j):cst0.getD j 0=0:=by
 unfold cst0 cst
 rw[List.getD,List.getElem?_append_right (by simpa using h),List.getElem?_replicate]
 split<;>rfl
theorem cst0_get (j:Nat) (h:j<4):cst0.getD j 0=cst.getD j 0:=by
 have hc:cst.length=4:=rfl
 unfold cst0
 rw[List.getD,List.getElem?_append_left (by omega)];rfl
def mid (k:List Nat) (c:Int):List Int:=(wput cst0 4 k 32).set 12 c
theorem mid_length (k:List Nat) (c:Int):(mid k c).length=16:=by unfold mid;rw[List.length_set,wput_length]
theorem mid_get (k:List Nat) (c:Int) (j:Nat) (h:j<16):(mid k c).getD j 0=if j<4 then cst.getD j 0 else if j<12 then wd k (j-4) else if j=12 then c else 0:=by
 unfold mid List.getD
 rw[List.getElem?_set]
 by_cases e:12=j
 ·subst e;rw[if_pos rfl,if_pos (by rw[wput_length];decide)];rfl
 ·rw[if_neg e,wput_get _ _ _ _ _ h,Option.getD_some]
  by_cases h1:j<4
  ·rw[if_pos h1,if_pos h1];exact cst0_get j h1
  ·rw[if_neg h1,if_neg h1]
   by_cases h2:j<12
   ·rw[if_pos h2,pkl_top _ _ _ (by omega)];unfold wd;rfl
   ·rw[if_neg h2,if_neg (by omega),show 32-4*(j-4)=0 by omega];rfl
theorem mid_zero (k:List Nat) (c:Int) (j:Nat) (h:13≤j):(mid k c).getD j 0=0:=by
 by_cases hj:j<16
 ·rw[mid_get _ _ _ hj,if_neg (by omega),if_neg (by omega),if_neg (by omega)]
 ·rw[List.getD,List.getElem?_eq_none (by rw[mid_length];omega)];rfl
theorem nonce_in (k n:List Nat) (c:Int):wput (mid k c) 13 n 12=fst k n c:=by
 apply List.ext_getElem?
 intro j
 by_cases h:j<16
 ·rw[wput_get _ _ _ _ _ h,fst_get _ _ _ _ h]
  congr 1
  by_cases h1:j<13
  ·rw[if_pos h1,mid_get _ _ _ h]
   by_cases h2:j<12
   ·simp only[if_pos h2]
   ·rw[if_neg (by omega),if_neg h2,if_pos (by omega),if_neg (by omega),if_neg h2,if_pos (by omega)]
  ·rw[if_neg h1,if_neg (by omega),if_neg (by omega),if_neg (by omega),pkl_top _ _ _ (by omega)];unfold wd;rfl
 ·rw[List.getElem?_eq_none (by rw[wput_length];omega),List.getElem?_eq_none (by rw[fst_length];omega)]
def sum16 (s f:List Int):List Int:=(List.range 16).map fun i=>add32 (s.getD i 0) (f.getD i 0)
def sumW (s f:List Int) (k:Nat):List Int:=(List.range 16).map fun i=>if i<k then add32 (s.getD i 0) (f.getD i 0) else s.getD i 0
theorem sumW_length (s f:List Int) (k:Nat):(sumW s f k).length=16:=by simp[sumW]
theorem sumW_get (s f:List Int) (k i:Nat) (h:i<16):(sumW s f k)[i]?=some (if i<k then add32 (s.getD i 0) (f.getD i 0) else s.getD i 0):=by simp[sumW,h]
theorem sumW_zero (s f:List Int) (hs:s.length=16):sumW s f 0=s:=by
 apply List.ext_getElem?
 intro i
 by_cases h:i<16
 ·rw[sumW_get _ _ _ _ h,if_neg (by omega),List.getElem?_eq_getElem (by omega)];simp[List.getD,hs,h]
 ·rw[List.getElem?_eq_none (by rw[sumW_length];omega),List.getElem?_eq_none (by omega)]
theorem sumW_set (s f:List Int) (k:Nat) (h:k<16):(sumW s f k).set k (add32 (s.getD k 0) (f.getD k 0))=sumW s f (k+1):=by
 apply List.ext_getElem?
 intro j
 rw[List.getElem?_set]
 by_cases hj:j<16
 ·rw[sumW_get _ _ _ _ hj,sumW_get _ _ _ _ hj]
  by_cases e:k=j
  ·subst e;rw[if_pos rfl,if_pos (by rw[sumW_length];exact h),if_pos (by omega)]
  ·rw[if_neg e]
   by_cases h1:j<k
   ·rw[if_pos h1,if_pos (by omega)]
   ·rw[if_neg h1,if_neg (by omega)]
 ·rw[if_neg (by omega),List.getElem?_eq_none (by rw[sumW_length];omega),List.getElem?_eq_none (by rw[sumW_length];omega)]
theorem sumW_all (s f:List Int):sumW s f 16=sum16 s f:=by
 unfold sumW sum16
 apply List.map_congr_left
 intro i hi
 rw[if_pos (List.mem_range.1 hi)]
theorem sum16_length (s f:List Int):(sum16 s f).length=16:=by simp[sum16]
def oI (s:List Int) (i:Nat):Int:=s.getD (i/4) 0/2^(i%4*8)%256
def oB (s:List Int) (i:Nat):Nat:=(oI s i).toNat
theorem oI_nat (s:List Int) (i:Nat):((oB s i:Nat):Int)=oI s i:=by
 unfold oB
 have:0≤oI s i:=Int.emod_nonneg _ (by decide)
 omega
theorem oB_lt (s:List Int) (i:Nat):oB s i<256:=by
 have h1:=oI_nat s i
 have h2:oI s i<256:=Int.emod_lt_of_pos _ (by decide)
 omega
def outP (s:List Int) (k:Nat):List Nat:=(List.range 64).map fun i=>if i<k then oB s i else 0
def outB (s:List Int):List Nat:=(List.range 64).map (oB s)
theorem outP_length (s:List Int) (k:Nat):(outP s k).length=64:=by simp[outP]
theorem outP_get (s:List Int) (k i:Nat) (h:i<64):(outP s k)[i]?=some (if i<k then oB s i else 0):=by simp[outP,h]
theorem outP_zero (s:List Int):outP s 0=zs 64:=by
 apply List.ext_getElem?
 intro i
 by_cases h:i<64
 ·rw[outP_get _ _ _ h,if_neg (by omega),zs,List.getElem?_replicate,if_pos h]
 ·rw[List.getElem?_eq_none (by rw[outP_length];omega),List.getElem?_eq_none (by rw[zs_length];omega)]
theorem outP_set (s:List Int) (k:Nat) (h:k<64):(outP s k).set k (oB s k)=outP s (k+1):=by
 apply List.ext_getElem?
 intro j
 rw[List.getElem?_set]
 by_cases hj:j<64
 ·rw[outP_get _ _ _ hj,outP_get _ _ _ hj]
  by_cases e:k=j
  ·subst e;rw[if_pos rfl,if_pos (by rw[outP_length];exact h),if_pos (by omega)]
  ·rw[if_neg e]
   by_cases h1:j<k
   ·rw[if_pos h1,if_pos (by omega)]
   ·rw[if_neg h1,if_neg (by omega)]
 ·rw[if_neg (by omega),List.getElem?_eq_none (by rw[outP_length];omega),List.getElem?_eq_none (by rw[outP_length];omega)]
theorem outP_all (s:List Int):outP s 64=outB s:=by
 unfold outP outB
 apply List.map_congr_left
 intro i hi
 rw[if_pos (List.mem_range.1 hi)]
theorem outB_length (s:List Int):(outB s).length=64:=by simp[outB]
theorem outB_bts (s:List Int):∀ i,(outB s).getD i 0<256:=getD_lt fun x hx=>by
 obtain⟨i,_,rfl⟩:=List.mem_map.1 hx
 exact oB_lt s i
@[irreducible] def blk (k n:List Nat) (c:Nat):List Nat:=outB (sum16 (drnds (fst k n (c:Int)) 10) (fst k n (c:Int)))
theorem blk_length (k n:List Nat) (c:Nat):(blk k n c).length=64:=by unfold blk;exact outB_length _
theorem blk_bts (k n:List Nat) (c:Nat):∀ i,(blk k n c).getD i 0<256:=by unfold blk;exact outB_bts _
theorem blk_eq (k n:List Nat) (c:Nat):blk k n c=outB (sum16 (drnds (fst k n (c:Int)) 10) (fst k n (c:Int))):=by unfold blk;rfl
def stB (k n:List Nat) (c i:Nat):Nat:=(blk k n (c+i/64)).getD (i%64) 0
theorem stB_lt (k n:List Nat) (c i:Nat):stB k n c i<256:=blk_bts _ _ _ _
def strm (k n:List Nat) (c size:Nat):List Nat:=(List.range size).map (stB k n c)
theorem strm_length (k n:List Nat) (c size:Nat):(strm k n c size).length=size:=by simp[strm]
theorem strm_bts (k n:List Nat) (c size:Nat):∀ i,(strm k n c size).getD i 0<256:=getD_lt fun x hx=>by
 obtain⟨i,_,rfl⟩:=List.mem_map.1 hx
 exact stB_lt _ _ _ _
def strP (k n:List Nat) (c size m:Nat):List Nat:=(List.range size).map fun i=>if i<m then stB k n c i else 0
theorem strP_length (k n:List Nat) (c size m:Nat):(strP k n c size m).length=size:=by simp[strP]
theorem strP_get (k n:List Nat) (c size m i:Nat) (h:i<size):(strP k n c size m)[i]?=some (if i<m then stB k n c i else 0):=by simp[strP,h]
theorem strP_zero (k n:List Nat) (c size:Nat):strP k n c size 0=zs size:=by
 apply List.ext_getElem?
 intro i
 by_cases h:i<size
 ·rw[strP_get _ _ _ _ _ _ h];simp[zs,h]
 ·rw[List.getElem?_eq_none (by rw[strP_length];omega),List.getElem?_eq_none (by rw[zs_length];omega)]
theorem strP_all (k n:List Nat) (c size m:Nat) (h:size≤m):strP k n c size m=strm k n c size:=by
 unfold strP strm
 apply List.map_congr_left
 intro i hi
 rw[if_pos (by have:=List.mem_range.1 hi;omega)]
theorem strP_step (k n:List Nat) (c size i t:Nat) (hi:64*i<size) (ht:t=min 64 (size-64*i)) :
  (strP k n c size (64*i)).take (64*i)++(blk k n (c+i)).take t++(strP k n c size (64*i)).drop (64*i+t)=strP k n c size (64*(i+1)):=by
 have hl:=strP_length k n c size (64*i)
 have hb:=blk_length k n (c+i)
 apply List.ext_getElem?
 intro j
 by_cases hj:j<size
 ·rw[strP_get _ _ _ _ _ _ hj]
  by_cases h1:j<64*i
  ·rw[List.append_assoc,List.getElem?_append_left (by simp;omega),List.getElem?_take,if_pos h1,strP_get _ _ _ _ _ _ hj,if_pos h1,if_pos (by omega)]
  ·by_cases h2:j<64*i+t
   ·rw[List.append_assoc,List.getElem?_append_right (by simp;omega),List.getElem?_append_left (by simp;omega)]
    have e:j-((strP k n c size (64*i)).take (64*i)).length=j-64*i:=by simp;omega
    rw[e,List.getElem?_take,if_pos (by omega),if_pos (by omega),List.getElem?_eq_getElem (by omega)]
    unfold stB
    rw[show c+j/64=c+i by omega,show j%64=j-64*i by omega]
    simp[List.getD,hb,show j-64*i<64 by omega]
   ·rw[List.getElem?_append_right (by simp;omega)]
    have e:j-((strP k n c size (64*i)).take (64*i)++(blk k n (c+i)).take t).length=j-(64*i+t):=by simp;omega
    rw[e,List.getElem?_drop,show 64*i+t+(j-(64*i+t))=j by omega,strP_get _ _ _ _ _ _ hj,if_neg h1,if_neg (by omega)]
 ·rw[List.getElem?_eq_none (by simp;omega),List.getElem?_eq_none (by rw[strP_length];omega)]
def mixd (a b:List Nat):List Nat:=(List.range b.length).map fun i=>a.getD i 0 ^^^ b.getD i 0
theorem mixd_length (a b:List Nat):(mixd a b).length=b.length:=by simp[mixd]
theorem mixd_bts {a b:List Nat} (ha:∀ i,a.getD i 0<256) (hb:∀ i,b.getD i 0<256):∀ i,(mixd a b).getD i 0<256:=getD_lt fun x hx=>by
 obtain⟨i,_,rfl⟩:=List.mem_map.1 hx
 exact xor_lt (ha i) (hb i)
def mixP (a b:List Nat) (m:Nat):List Nat:=(List.range b.length).map fun i=>if i<m then a.getD i 0 ^^^ b.getD i 0 else a.getD i 0
theorem xor_twice (a b:Nat):a ^^^ (a ^^^ b)=b:=by rw[←Nat.xor_assoc,Nat.xor_self,Nat.zero_xor]
theorem mixd_twice (a b:List Nat):mixd a (mixd a b)=b:=by
 apply List.ext_getElem?
 intro i
 by_cases h:i<b.length
 ·simp only[mixd,List.length_map,List.length_range,List.getElem?_map,List.getElem?_range h,Option.map_some]
  rw[List.getElem?_eq_getElem h]
  congr 1
  simp only[List.getD,List.getElem?_map,List.getElem?_range h,Option.map_some,Option.getD_some,List.getElem?_eq_getElem h]
  exact xor_twice _ _
 ·rw[List.getElem?_eq_none (by rw[mixd_length,mixd_length];omega),List.getElem?_eq_none (by omega)]
theorem mixd_zs (a:List Nat) (m:Nat) (h:m=a.length):mixd a (zs m)=a:=by
 subst h
 apply List.ext_getElem?
 intro i
 by_cases h:i<a.length
 ·simp[mixd,zs,h,List.getD]
 ·rw[List.getElem?_eq_none (by rw[mixd_length,zs_length];omega),List.getElem?_eq_none (by omega)]
def key0:List Nat:=List.range 32
def non0:List Nat:=[0,0,0,9,0,0,0,74,0,0,0,0]
end Go.Ch

namespace Go.Hd
open Go Go.Sh Go.Ch Go.Cm
def rhoL:List Nat:=purp++[114,104,111]
def muL:List Nat:=purp++[109,117]
def tauL:List Nat:=purp++[116,97,117]
@[irreducible] def hst (s:List Nat):List Nat:=strm (keyN (drv s rhoL)) (zs 12) 0 192
@[irreducible] def prf (s b:List Nat):List Nat:=(keyN (mac (keyN (drv s muL)) b)).take 16
@[irreducible] def tagS (s:List Nat):List Nat:=(keyN (drv s tauL)).take 16
@[irreducible] def bli (s a:List Nat):List Nat:=keyN (mac s a)
theorem hst_length (s:List Nat):(hst s).length=192:=by unfold hst;exact strm_length _ _ _ _
theorem hst_bts (s:List Nat):∀ i,(hst s).getD i 0<256:=by unfold hst;exact strm_bts _ _ _ _
theorem prf_length (s b:List Nat):(prf s b).length=16:=by unfold prf;rw[List.length_take,keyN_length];rfl
theorem prf_bts (s b:List Nat):∀ i,(prf s b).getD i 0<256:=by unfold prf;exact bts_take (keyN_bts _) _
theorem tagS_length (s:List Nat):(tagS s).length=16:=by unfold tagS;rw[List.length_take,keyN_length];rfl
theorem bli_length (s a:List Nat):(bli s a).length=32:=by unfold bli;exact keyN_length _
theorem bli_bts (s a:List Nat):∀ i,(bli s a).getD i 0<256:=by unfold bli;exact keyN_bts _
theorem mixd_app (a b c:List Nat):mixd a (b++c)=mixd a b++mixd (a.drop b.length) c:=by
 apply List.ext_getElem?
 intro i
 by_cases h1:i<b.length
 ·rw[List.getElem?_append_left (by rw[mixd_length];exact h1)]
  simp only[mixd,List.getElem?_map]
  rw[List.getElem?_range (by rw[List.length_append];omega),List.getElem?_range h1]
  simp only[Option.map_some,List.getD]
  rw[List.getElem?_append_left h1]
 ·rw[List.getElem?_append_right (by rw[mixd_length];omega),mixd_length]
  by_cases h2:i<b.length+c.length
  ·simp only[mixd,List.getElem?_map]
   rw[List.getElem?_range (by rw[List.length_append];exact h2),List.getElem?_range (by omega)]
   simp only[Option.map_some,List.getD]
   rw[List.getElem?_append_right (by omega),List.getElem?_drop,show b.length+(i-b.length)=i by omega]
  ·rw[List.getElem?_eq_none (by rw[mixd_length,List.length_append];omega),List.getElem?_eq_none (by rw[mixd_length];omega)]
theorem mixd_take (a b:List Nat) (n:Nat):(mixd a b).take n=mixd a (b.take n):=by
 unfold mixd
 rw[←List.map_take,List.take_range,List.length_take]
 apply List.map_congr_left
 intro i hi
 have:=List.mem_range.1 hi
 simp only[List.getD]
 rw[List.getElem?_take,if_pos (by omega)]
theorem mixd_drop (a b:List Nat) (n:Nat) (h:n≤b.length):(mixd a b).drop n=mixd (a.drop n) (b.drop n):=by
 conv=>lhs;rw[←List.take_append_drop n b]
 have e:(b.take n).length=n:=by rw[List.length_take];omega
 rw[mixd_app,List.drop_append_of_le_length (by rw[mixd_length,e];exact Nat.le_refl _),List.drop_of_length_le (by rw[mixd_length,e];exact Nat.le_refl _),List.nil_append,e]
structure Hop where
 k:List Nat
 c:Cmd
def fil (ss:List (List Nat)):List Nat:=ss.foldl (fun f s=>mixd ((hst s).drop (192-(f.length+32))) (f++zs 32)) []
theorem fil_snoc (ss:List (List Nat)) (s:List Nat):fil (ss++[s])=mixd ((hst s).drop (192-((fil ss).length+32))) (fil ss++zs 32):=by
 unfold fil;rw[List.foldl_append];rfl
theorem fil_length':∀ (ss:List (List Nat)) (f:List Nat),(ss.foldl (fun f s=>mixd ((hst s).drop (192-(f.length+32))) (f++zs 32)) f).length=f.length+32*ss.length
 | [],f=>rfl
 | s::ss,f=>by
  rw[List.foldl_cons,fil_length' ss,mixd_length,List.length_append,zs_length,List.length_cons];omega
theorem fil_length (ss:List (List Nat)):(fil ss).length=32*ss.length:=by
 have:=fil_length' ss []
 simpa [fil] using this
theorem fil_bts:∀ (ss:List (List Nat)),∀ i,(fil ss).getD i 0<256:=by
 have:∀ (ss:List (List Nat)) (f:List Nat),(∀ i,f.getD i 0<256)→∀ i,(ss.foldl (fun f s=>mixd ((hst s).drop (192-(f.length+32))) (f++zs 32)) f).getD i 0<256:=by
  intro ss
  induction ss with
  | nil=>intro f h;exact h
  | cons s ss ih =>
   intro f h
   rw[List.foldl_cons]
   exact ih _ (mixd_bts (bts_drop (hst_bts s) _) (bts_app h (bts_zs _)))
 exact fun ss=>this ss [] (by intro i;simp)
def wid (s c g b:List Nat):List Nat:=mixd (hst s) (c++g++b)
theorem wid_length {s c g b:List Nat} (hc:c.length=16) (hg:g.length=16) (hb:b.length=160):(wid s c g b).length=192:=by
 unfold wid;rw[mixd_length,List.length_append,List.length_append,hc,hg,hb]
def betaL (ss:List (List Nat)) (s c:List Nat):List Nat:=(wid s c (zs 16) (zs 160)).take (160-32*ss.length)++fil ss
def betas (ss:List (List Nat)):List (List Nat × List Nat)→List Nat
 | []=>[]
 | [(s,c)]=>betaL ss s c
 | (s,c)::(t,d)::r=>(wid s c (prf t (betas (ss++[s]) ((t,d)::r))) (betas (ss++[s]) ((t,d)::r))).take 160
theorem betas_more (ss:List (List Nat)) (s c t d:List Nat) (r:List (List Nat × List Nat)):betas ss ((s,c)::(t,d)::r)=(wid s c (prf t (betas (ss++[s]) ((t,d)::r))) (betas (ss++[s]) ((t,d)::r))).take 160:=rfl
theorem betas_length:∀ (r:List (List Nat × List Nat)) (ss:List (List Nat)),r≠[]→(∀ x∈r,x.2.length=16)→ss.length+r.length≤6→(betas ss r).length=160
 | [],_,h,_,_=>absurd rfl h
 | [(s,c)],ss,_,hc,hn=>by
  show (betaL ss s c).length=160
  have h1:=hc (s,c) (by simp)
  unfold betaL
  rw[List.length_append,List.length_take,wid_length h1 (zs_length _) (zs_length _),fil_length]
  simp at hn;omega
 | (s,c)::(t,d)::r,ss,_,hc,hn=>by
  have ih:=betas_length ((t,d)::r) (ss++[s]) (by simp) (fun x hx=>hc x (List.mem_cons_of_mem _ hx)) (by simp at hn ⊢;omega)
  rw[betas_more,List.length_take,wid_length (hc (s,c) (by simp)) (prf_length _ _) ih];rfl
theorem betas_bts:∀ (r:List (List Nat × List Nat)) (ss:List (List Nat)),(∀ x∈r,∀ i,x.2.getD i 0<256)→∀ i,(betas ss r).getD i 0<256
 | [],_,_=>by intro i;simp[betas]
 | [(s,c)],ss,hc=>bts_app (bts_take (mixd_bts (hst_bts s) (bts_app (bts_app (hc (s,c) (by simp)) (bts_zs _)) (bts_zs _))) _) (fil_bts ss)
 | (s,c)::(t,d)::r,ss,hc=>by
  have ih:=betas_bts ((t,d)::r) (ss++[s]) (fun x hx=>hc x (List.mem_cons_of_mem _ hx))
  rw[betas_more]
  exact bts_take (mixd_bts (hst_bts s) (bts_app (bts_app (hc (s,c) (by simp)) (prf_bts _ _)) ih)) _
theorem betas_tail:∀ (r:List (List Nat × List Nat)) (ss:List (List Nat)),r≠[]→(∀ x∈r,x.2.length=16)→ss.length+r.length≤5→(betas ss r).drop (160-32*ss.length)=fil ss
 | [],_,h,_,_=>absurd rfl h
 | [(s,c)],ss,_,hc,hn=>by
  show (betaL ss s c).drop _=_
  have h1:=hc (s,c) (by simp)
  unfold betaL
  have e:((wid s c (zs 16) (zs 160)).take (160-32*ss.length)).length=160-32*ss.length:=by
   rw[List.length_take,wid_length h1 (zs_length _) (zs_length _)];omega
  rw[List.drop_append_of_le_length (by rw[e];exact Nat.le_refl _),List.drop_of_length_le (by rw[e];exact Nat.le_refl _),List.nil_append]
 | (s,c)::(t,d)::r,ss,_,hc,hn=>by
  have hc':∀ x∈(t,d)::r,x.2.length=16:=fun x hx=>hc x (List.mem_cons_of_mem _ hx)
  have hn':(ss++[s]).length+((t,d)::r).length≤5:=by simp at hn ⊢;omega
  have ih:=betas_tail ((t,d)::r) (ss++[s]) (by simp) hc' hn'
  have il:=betas_length ((t,d)::r) (ss++[s]) (by simp) hc' (by omega)
  have hs:ss.length≤3:=by simp at hn;omega
  rw[betas_more]
  generalize betas (ss++[s]) ((t,d)::r)=b at *
  have h1:=hc (s,c) (by simp)
  have hp:=prf_length t b
  have hf:=fil_length ss
  generalize prf t b=g at *
  simp only at h1
  unfold wid
  have e1:160-32*ss.length=32+(128-32*ss.length):=by omega
  rw[mixd_take,mixd_drop _ _ _ (by simp only[List.length_take,List.length_append,h1,hp,il];omega)]
  have e2:((c++g++b).take 160).drop (160-32*ss.length)=(fil (ss++[s])).take (32*ss.length):=by
   rw[←ih,List.length_append,List.length_singleton,List.drop_take,List.drop_append,List.drop_of_length_le (by simp[h1,hp];omega),List.nil_append]
   simp only[List.length_append,h1,hp]
   congr 1
   congr 1;omega
  rw[e2,fil_snoc,mixd_take,List.take_append_of_le_length (by omega),List.take_of_length_le (by omega),hf]
  have e3:192-(32*ss.length+32)=160-32*ss.length:=by omega
  rw[e3]
  exact mixd_twice _ _
theorem betas_open (ss:List (List Nat)) (s c t d:List Nat) (r:List (List Nat × List Nat)) (hc:∀ x∈(s,c)::(t,d)::r,x.2.length=16) (hn:ss.length+r.length≤3) :
  mixd (hst s) (betas ss ((s,c)::(t,d)::r)++zs 32)=c++prf t (betas (ss++[s]) ((t,d)::r))++betas (ss++[s]) ((t,d)::r):=by
 have hc':∀ x∈(t,d)::r,x.2.length=16:=fun x hx=>hc x (List.mem_cons_of_mem _ hx)
 have ih:=betas_tail ((t,d)::r) (ss++[s]) (by simp) hc' (by simp;omega)
 have il:=betas_length ((t,d)::r) (ss++[s]) (by simp) hc' (by simp;omega)
 have bl:=betas_length ((s,c)::(t,d)::r) ss (by simp) hc (by simp;omega)
 have h1:=hc (s,c) (by simp)
 rw[mixd_app,bl,betas_more]
 generalize betas (ss++[s]) ((t,d)::r)=b at *
 have hp:=prf_length t b
 generalize prf t b=g at *
 simp only at h1
 have hf:=fil_length ss
 unfold wid
 rw[mixd_take,mixd_twice]
 have hz:mixd ((hst s).drop 160) (zs 32)=(hst s).drop 160:=mixd_zs _ _ (by rw[List.length_drop,hst_length])
 rw[hz]
 have hlast:b.drop 128=(hst s).drop 160:=by
  have e:b.drop 128=(b.drop (160-32*(ss++[s]).length)).drop (32*ss.length):=by
   rw[List.drop_drop];congr 1;simp;omega
  rw[e,ih,fil_snoc,mixd_drop _ _ _ (by rw[List.length_append];omega),List.drop_drop,List.drop_append_of_le_length (by omega),List.drop_of_length_le (l:=fil ss) (by omega),List.nil_append,hf]
  rw[show 192-(32*ss.length+32)+32*ss.length=160 by omega]
  exact hz
 rw[←hlast]
 conv=>rhs;rw[←List.take_append_drop 160 (c++g++b)]
 congr 1
 rw[List.drop_append,List.drop_of_length_le (l:=c++g) (by rw[List.length_append];omega),List.nil_append,List.length_append,h1,hp]
theorem betas_last (ss:List (List Nat)) (s c:List Nat) (hc:c.length=16) (hn:ss.length≤4):(mixd (hst s) (betas ss [(s,c)]++zs 32)).take 16=c:=by
 have h0:betas ss [(s,c)]=betaL ss s c:=rfl
 have hw:=wid_length (s:=s) hc (zs_length 16) (zs_length 160)
 rw[h0,mixd_take,List.take_append_of_le_length (by unfold betaL;rw[List.length_append,List.length_take,fil_length,hw];omega)]
 unfold betaL
 rw[List.take_append_of_le_length (by rw[List.length_take,hw];omega),List.take_take,show min 16 (160-32*ss.length)=16 by omega]
 unfold wid
 rw[mixd_take,mixd_twice,List.append_assoc,List.take_append_of_le_length (by omega),List.take_of_length_le (by omega)]
end Go.Hd

namespace Go.Proofs.YtddmjddlbhdcpaaGreatDoor
open Go.RowKit Go.Hold Go.Sh
def expR (W:World) (x:Nat) (last info:Value) (j:Nat) (L:List Nat) (D:St):Nat→Value→World→Prop
 | 0,v,_=>v=.slice (some ⟨x,0,none⟩) 32 32
 | 1,v,_=>v=last
 | 2,v,_=>v=info
 | 3,v,_=>v=.int .i64 (j:Int)
 | 4,v,_=>v=.int .u8 ((j%256:Nat):Int)
 | 5,v,w=>∃ g,v=.slice (some ⟨g,0,none⟩) 1 1∧BytesAt w g 0 [j%256]
 | 6,v,w=>∃ g gb,v=.slice (some ⟨g,0,none⟩) 3 3∧RowAt w g #[last,info,.slice (some ⟨gb,0,none⟩) 1 1]∧BytesAt w gb 0 [j%256]
 | 7,v,w=>SlV w v L
 | 8,v,_=>v=.agg (keA D)
 | 9,v,w=>∃ g,v=.pointer (some ⟨g,0,none⟩)∧W.heap.size≤g∧∃ c,c.size=32∧RowAt w g c
 | _,_,_=>True
theorem expR_mono (W:World) (x:Nat) (last info:Value) (j:Nat) (L:List Nat) (D:St):∀ i v w w',expR W x last info j L D i v w→Below w.heap.size w w'→expR W x last info j L D i v w'
 | 0,_,_,_,h,_=>h
 | 1,_,_,_,h,_=>h
 | 2,_,_,_,h,_=>h
 | 3,_,_,_,h,_=>h
 | 4,_,_,_,h,_=>h
 | 5,_,_,_,h,hb=>by obtain⟨g,h1,h2⟩:=h;exact⟨g,h1,h2.grow hb⟩
 | 6,_,_,_,h,hb=>by obtain⟨g,gb,h1,h2,h3⟩:=h;exact⟨g,gb,h1,h2.grow hb,h3.grow hb⟩
 | 7,_,_,_,h,hb=>SlV.grow h hb
 | 8,_,_,_,h,_=>h
 | 9,_,_,_,h,hb=>by obtain⟨g,h1,h2,c,h3,h4⟩:=h;exact⟨g,h1,h2,c,h3,h4.grow hb⟩
 | _+10,_,_,_,_,_=>trivial
set_option maxHeartbeats 600000 in
set_option maxRecDepth 100000 in
theorem expand_c (ic n:Nat) (ip:Option Addr) (s info:List Nat) (w:World) (hT:Tabs w) (hs:s.length=32) (hsb:∀ i,s.getD i 0<256) (hi:info.length≤100000) (hib:∀ i,info.getD i 0<256) (hiB:Bs0 w ip info) (hic:ip=none→ic=0) (hn:n≤8160) :
  Calls Tryz.prog 89 #[.agg (bysA s),.slice ip info.length ic,.int .i64 (n:Int)] w fun e w'=>∃ p,e=.returned (.tuple #[.slice p n n,.int .i64 0])∧Bs0 w' p (expN s info n)∧(p=none→n=0)∧Below w.heap.size w w':=by
 have HT:=Lib.hid hT
 have HI:=Lib.hid hiB
 have HIc:=Lib.hid hic
 have Hsb:=Lib.hid hsb
 have Hib:=Lib.hid hib
 have Hs:=Lib.hid hs
 have h0:¬(n:Int)<0:=by omega
 have h1:¬(8160:Int)<(n:Int):=by omega
 obtain⟨m,em⟩:∃ m,m=info.length:=⟨_,rfl⟩
 rw[←em] at hi ⊢
 have Em:=Lib.hid em
 clear hT hiB hic hsb hib hs em
 go_enter Tryz.func89,Tryz.ntmps89
 go_wp2_with fail
 generalize hW:World.alloc _ _=W0
 have R0:=Lib.hid (show RowAt W0 w.heap.size (bysA s) by rw[←hW];exact RowAt.of (block_new w _))
 have B0:=Lib.hid (show Below w.heap.size w W0 by rw[←hW];exact below_alloc (Below.refl _ _) _)
 clear hW
 obtain⟨x,ex⟩:∃ x,x=w.heap.size:=⟨_,rfl⟩
 rw[←ex] at R0 ⊢
 have Ex:=Lib.hid ex
 clear ex
 go_loopw [8,9,10] (fun all last i wr=>∃ j:Nat,i=.int .i64 ((j+1:Nat):Int)∧32*j<n+32∧OwnB wr W0.heap.size all (exps s info j)∧SlV wr last (tagT s info j)∧Below W0.heap.size W0 wr) (fun _ _ i _=>300-(intOf i).toNat)
 case atStart=>exact⟨0,rfl,by omega,own_nil W0 _,⟨none,0,rfl,.inl rfl,Nat.le_refl _,fun _=>rfl⟩,Below.refl _ _⟩
 case round =>
  obtain⟨j,rfl,hj,hown,hlast,hbel⟩:=hrel
  have hel:=exps_length s info j
  obtain⟨pa,ca,rfl,hBa,hca,hpa⟩:=hown.bs
  rw[hel] at hown hca ⊢
  obtain⟨na,ena⟩:∃ y,y=32*j:=⟨_,rfl⟩
  rw[←ena] at hown hca hj ⊢
  have Hown:=Lib.hid hown
  have Hlast:=Lib.hid hlast
  have Hbel:=Lib.hid hbel
  have Ena:=Lib.hid ena
  have HBa:=Lib.hid hBa
  have Hpa:=Lib.hid hpa
  clear hown hlast hbel ena hel hBa hpa
  obtain⟨j1,ej1⟩:∃ y,y=j+1:=⟨_,rfl⟩
  rw[←ej1]
  by_cases hjn:na<n
  ·have hlt:(na:Int)<(n:Int):=by omega
   have hw8:=u8_wrap j1
   obtain⟨pl,cl,rfl,hBl,hcl,hpl⟩:=Hlast.out
   obtain⟨nl,enl⟩:∃ y,y=(tagT s info j).length:=⟨_,rfl⟩
   have hnl:=tagT_le s info j
   rw[←enl] at hcl hnl ⊢
   have Enl:=Lib.hid enl
   have HBl:=Lib.hid hBl
   have Hpl:=Lib.hid hpl
   have Ej1:=Lib.hid ej1
   have hj1:j1≤256:=by have:=Ena.out;omega
   clear hBl hpl enl ej1 hcl
   obtain⟨L,eL⟩:∃ y,y=tagT s info j++info++[j1%256]:=⟨_,rfl⟩
   obtain⟨D,eD⟩:∃ y,y=mac s L:=⟨_,rfl⟩
   have Htag:=Lib.hid (show tagT s info (j+1)=keyN D by rw[tagT,eD,eL,Ej1.out])
   have HLb:=Lib.hid (show ∀ i,L.getD i 0<256 by rw[eL];exact bts_app (bts_app (tagT_bts _ _ _) Hib.out) (bts_1 _ (Nat.mod_lt _ (by decide))))
   have hLl:L.length≤200000:=by rw[eL,List.length_append,List.length_append,←Enl.out,←Em.out];simp only[List.length_cons,List.length_nil];omega
   have EL:=Lib.hid eL
   have ED:=Lib.hid eD
   clear eL eD
   have hWr:=Hbel.out.size
   have R1:=Lib.hid (R0.out.grow Hbel.out)
   have I1:=Lib.hid ((HI.out.grow B0.out).grow Hbel.out)
   have T1:=Lib.hid ((HT.out.grow B0.out).grow Hbel.out)
   have BB1:=Lib.hid (B0.out.trans (Hbel.out.mono B0.out.size))
   go_wp2_with fail
   refine wp_region_grows wr 10 (fun w w'=>Below w.heap.size w w') (expR wr x (.slice pl nl cl) (.slice ip m ic) j1 L D) [10] [0,1,2,3,4,5,6,7,8,9] [some 24,some 25,some 26,some 27,some 28,some 29,some 30,some 31,some 32,some 11] (by kernel_rfl) (by kernel_rfl) (by kernel_rfl) (by kernel_rfl) ((Below.refl _ _).drew) (fun w w' h h'=>h.trans (h'.mono h.size)) (expR_mono _ _ _ _ _ _ _) ?_
   intro vals
   simp only[List.take_succ_cons,List.take_zero]
   refine⟨grow_val [] [] (by kernel_rfl) rfl (fun K w hb hd hK=>⟨wanted_none rfl,?_⟩),?_⟩
   ·simp only[putZ];go_simp;exact hK _ _ _ (Below.refl _ _) rfl
   refine⟨grow_val [] [] (by kernel_rfl) rfl (fun K w hb hd hK=>⟨wanted_none rfl,?_⟩),?_⟩
   ·simp only[putZ];go_simp;exact hK _ _ _ (Below.refl _ _) rfl
   refine⟨grow_val [] [] (by kernel_rfl) rfl (fun K w hb hd hK=>⟨wanted_none rfl,?_⟩),?_⟩
   ·simp only[putZ];go_simp;exact hK _ _ _ (Below.refl _ _) rfl
   refine⟨grow_val [] [] (by kernel_rfl) rfl (fun K w hb hd hK=>⟨wanted_none rfl,?_⟩),?_⟩
   ·simp only[putZ];go_simp;exact hK _ _ _ (Below.refl _ _) rfl
   refine⟨grow_val [3] [some 27] (by kernel_rfl) (by kernel_rfl) (fun K w hb hd hK=>⟨wanted_none rfl,?_⟩),?_⟩
   ·have d3:vals 3=.int .i64 (j1:Int):=hd 3 (by simp)
    simp only[List.map_cons,List.map_nil,putZ,d3];go_simp;exact hK _ _ _ (Below.refl _ _) rfl
   refine⟨grow_val [4] [some 28] (by kernel_rfl) (by kernel_rfl) (fun K w hb hd hK=>⟨wanted_none rfl,?_⟩),?_⟩
   ·have d4:vals 4=.int .u8 ((j1%256:Nat):Int):=hd 4 (by simp)
    obtain⟨b,eb⟩:∃ b,b=j1%256:=⟨_,rfl⟩
    rw[←eb] at d4
    have Eb:=Lib.hid eb
    clear eb
    simp only[List.map_cons,List.map_nil,putZ,d4];go_simp;exact hK _ _ _ (below_alloc (Below.refl _ _) _) ⟨_,rfl,by rw[←Eb.out];exact bytes_new w [b] _ _⟩
   refine⟨grow_val [1,2,5] [some 25,some 26,some 29] (by kernel_rfl) (by kernel_rfl) (fun K w hb hd hK=>⟨wanted_none rfl,?_⟩),?_⟩
   ·have d1:vals 1=.slice pl nl cl:=hd 1 (by simp)
    have d2:vals 2=.slice ip m ic:=hd 2 (by simp)
    obtain⟨gb,d5,hgb⟩:∃ g,vals 5=.slice (some ⟨g,0,none⟩) 1 1∧BytesAt w g 0 [j1%256]:=hd 5 (by simp)
    simp only[List.map_cons,List.map_nil,putZ,d1,d2,d5];go_simp;exact hK _ _ _ (below_alloc (Below.refl _ _) _) ⟨_,gb,rfl,RowAt.of (block_new w _),hgb.grow (below_alloc (Below.refl _ _) _)⟩
   refine⟨grow_call [6] [some 30] (by kernel_rfl) (by kernel_rfl) (fun K w hb hd hK=>⟨wanted_none rfl,?_⟩),?_⟩
   ·obtain⟨g6,gb,d6,hr6,hgb⟩:∃ g gb,vals 6=.slice (some ⟨g,0,none⟩) 3 3∧RowAt w g #[.slice pl nl cl,.slice ip m ic,.slice (some ⟨gb,0,none⟩) 1 1]∧BytesAt w gb 0 [j1%256]:=hd 6 (by simp)
    simp only[List.map_cons,List.map_nil,putZ,d6];go_simp
    refine(concat3_c hr6 Enl.out Em.out (k:=[j1%256]) rfl (HBl.out.grow hb) (I1.out.grow hb) (Bs0.some hgb) Hpl.out HIc.out (fun h=>by cases h) (by rw[←Enl.out,←Em.out];simp only[List.length_cons,List.length_nil];omega)).mono ?_
    rintro e w' ⟨v,rfl,hown,hb'⟩
    refine⟨v,rfl,hK _ _ hb' ?_⟩
    show SlV w' v L
    rw[EL.out];exact hown.bs
   refine⟨grow_call [0,7] [some 24,some 31] (by kernel_rfl) (by kernel_rfl) (fun K w hb hd hK=>⟨wanted_none rfl,?_⟩),?_⟩
   ·have d0:vals 0=.slice (some ⟨x,0,none⟩) 32 32:=hd 0 (by simp)
    obtain⟨p7,c7,d7,hB7,_,hp7⟩:SlV w (vals 7) L:=hd 7 (by simp)
    simp only[List.map_cons,List.map_nil,putZ,d0,d7];go_simp
    have HM:=mac_c 32 c7 (some ⟨x,0,none⟩) p7 s L w (T1.out.grow hb) (by rw[Hs.out];decide) Hsb.out (Bs0.some (bytes_row (R1.out.grow hb))) (by rw[Hs.out];decide) (by omega) HLb.out hB7 hp7
    rw[Hs.out,←ED.out] at HM
    refine HM.mono ?_
    rintro e w' ⟨rfl,hb'⟩
    exact⟨_,rfl,hK _ _ hb' rfl⟩
   refine⟨grow_val [] [] (by kernel_rfl) rfl (fun K w hb hd hK=>⟨wanted_none rfl,?_⟩),?_⟩
   ·simp only[putZ];go_simp;exact hK _ _ _ (below_alloc (Below.refl _ _) _) ⟨_,rfl,hb.size,_,by simp,RowAt.of (block_new w _)⟩
   intro W1 hb1 hd
   have d8:vals 8=.agg (keA D):=hd 8 (by simp)
   obtain⟨g,d9,hg,c9,hc9,hR9⟩:∃ g,vals 9=.pointer (some ⟨g,0,none⟩)∧wr.heap.size≤g∧∃ c:Array Value,c.size=32∧RowAt W1 g c:=hd 9 (by simp)
   clear hd
   simp only[List.map_cons,List.map_nil,putZ,d8,d9,pick,List.getElem?_cons_succ,List.getElem?_cons_zero]
   generalize vals 0=v0
   generalize vals 1=v1
   generalize vals 2=v2
   generalize vals 3=v3
   generalize vals 4=v4
   generalize vals 5=v5
   generalize vals 6=v6
   generalize vals 7=v7
   clear d8 d9
   have hown1:OwnB W1 W0.heap.size (.slice pa na ca) (exps s info j):=Hown.out.below hb1
   have hown2:OwnB (W1.setRow g (keA D)) W0.heap.size (.slice pa na ca) (exps s info j) :=
    World.ownsRow.kept (row:=some g) hown1 ⟨rfl,rfl,rfl,by rw[size_setRow];exact Nat.le_refl _,fun k _ hk=>setRow_other W1 g k _ (fun e=>hk (by rw[e]))⟩ (by
     right
     intro he
     have:=(World.ownsRow.lt Hown.out g he).2
     omega)
   have RG:=hR9.set (keA D)
   have hsz2:W0.heap.size≤(W1.setRow g (keA D)).heap.size:=by rw[size_setRow];have:=hb1.size;omega
   have hB2:Below W0.heap.size W0 (W1.setRow g (keA D)):=by
    have:=Hbel.out.trans (hb1.mono Hbel.out.size)
    exact below_setRow this (by omega) _
   obtain⟨va,wa,hra,howna,hgra⟩:=app_own (cap:=32) (k:=32) hown2 (Bs0.some (keyN_row RG)) (keyN_length D).symm (fun h=>by cases h) hsz2 (by rw[exps_length,keyN_length];have:=Ena.out;omega)
   have Hba:=Lib.hid (own_below hB2 hown2 hsz2 hgra)
   have Hoa:=Lib.hid (show OwnB wa W0.heap.size va (exps s info (j+1)) by rw[exps,Htag.out];exact howna)
   have Hla:=Lib.hid (show SlV wa (.slice (some ⟨g,0,none⟩) 32 32) (tagT s info (j+1)) by
    rw[Htag.out]
    refine⟨some ⟨g,0,none⟩,32,by rw[keyN_length],Bs0.some (keyN_row ?_),by rw[keyN_length];exact Nat.le_refl _,fun h=>by cases h⟩
    obtain⟨t,ht⟩:=RG.block
    refine RowAt.of (t:=t) ?_
    rw[hgra.block g RG.2.2 (fun he=>by have:=(World.ownsRow.lt Hown.out g he.symm).2;omega)]
    exact ht)
   obtain⟨r1,r2,r3⟩:=hR9
   clear hown1 hown2 RG hsz2 hB2 howna hgra
   go_wp2_with (at_builtin;refine Lib.wpList_append_run _ rfl _ _ _ _ rfl _ _ rfl rfl _ _ hra ?_)
   go_wp2_with fail
   go_roundw
   case rel=>exact⟨j+1,by rw[←Ej1.out];go_num,by have:=Ena.out;omega,Hoa.out,Hla.out,Hba.out⟩
   case measure=>simp[intOf];omega
  ·have hlt:¬(na:Int)<(n:Int):=by omega
   have hsl:=slB_hm pa na ca n (by omega)
   clear ej1
   go_wp2_with fail
   refine bodyPost_ret (v:=.tuple #[.slice pa n n,.int .i64 0]) (results_tmp2 Tryz.results89 _ _ _) rfl ⟨pa,rfl,?_,fun h=>?_,B0.out.trans (Hbel.out.mono B0.out.size)⟩
   ·rw[expN_take s info n j (by have:=Ena.out;omega)]
    exact Bs0.take HBa.out n
   ·have hz:exps s info j=[]:=by
     rcases HBa.out with h1 | ⟨b,o,h1,_⟩
     ·exact h1
     ·rw[h] at h1;cases h1
    have:=exps_length s info j
    rw[hz] at this
    have:=Ena.out
    simp at *;omega
end Go.Proofs.YtddmjddlbhdcpaaGreatDoor

namespace Go.Proofs.YtddmjddlbhdcpaaGreatDoor
open Go.RowKit Go.Hold Go.Sh
set_option maxHeartbeats 400000 in
set_option maxRecDepth 100000 in
theorem rjoin_c (ac bc na nb:Nat) (ap bp:Option Addr) (a b:List Nat) (w:World) (hna:na=a.length) (hnb:nb=b.length) (haB:Bs0 w ap a) (hap:ap=none→ac=0) (hbB:Bs0 w bp b) (hbp:bp=none→bc=0) (hl:a.length+b.length≤16000000) :
  Calls Tryz.prog 38 #[.slice ap na ac,.slice bp nb bc] w fun e w'=>∃ v,e=.returned v∧OwnB w' w.heap.size v (a++b)∧Below w.heap.size w w':=by
 have BA:=below_alloc (Below.refl w.heap.size w) (.cells #[] 5)
 have hE:=ownB_empty w w.heap.size (Nat.le_refl _)
 obtain⟨v1,w1,hr1,ho1,hg1⟩:=app_own (cap:=ac) hE (haB.grow BA) hna hap BA.size (by simp only[List.length_nil];omega)
 have hb1:=own_below BA hE BA.size hg1
 rw[List.nil_append] at ho1
 obtain⟨v2,w2,hr2,ho2,hg2⟩:=app_own (cap:=bc) ho1 (hbB.grow hb1) hnb hbp hb1.size (by omega)
 have hb2:=own_below hb1 ho1 hb1.size hg2
 have HO:=Lib.hid ho2
 have HB:=Lib.hid hb2
 clear BA hE ho1 hg1 hb1 ho2 hg2 hb2 haB hbB hap hbp hl hna hnb
 go_enter Tryz.func38,Tryz.ntmps38
 go_wp2_with (at_builtin;first | refine Lib.wpList_append_run _ rfl _ _ _ _ rfl _ _ rfl rfl _ _ hr1 ?_ | refine Lib.wpList_append_run _ rfl _ _ _ _ rfl _ _ rfl rfl _ _ hr2 ?_)
 go_wp2_with fail
 go_ret
 exact⟨_,rfl,HO.out,HB.out⟩
set_option maxHeartbeats 400000 in
set_option maxRecDepth 100000 in
theorem rbytes_c (s:List Nat) (hs:s.length=32) (w:World):Calls Tryz.prog 64 #[.agg (bysA s)] w fun e w'=>∃ v,e=.returned v∧OwnB w' w.heap.size v s∧Below w.heap.size w w':=by
 have Hs:=Lib.hid hs
 clear hs
 go_enter Tryz.func64,Tryz.ntmps64
 go_wp2_with fail
 have R0:=Lib.hid (show RowAt (w.alloc (.cells (bysA s) 23)) w.heap.size (bysA s) from RowAt.of (block_new w _))
 have B0:=Lib.hid (below_alloc (Below.refl w.heap.size w) (.cells (bysA s) 23))
 generalize w.alloc (.cells (bysA s) 23)=W0 at *
 go_loopw [3,4] (fun v i wr=>∃ k:Nat,k≤32∧i=.int .i64 k∧OwnB wr W0.heap.size v (s.take k)∧Below W0.heap.size W0 wr) (fun _ i _=>32-(intOf i).toNat)
 case atStart=>exact⟨0,by decide,rfl,own_nil W0 _,Below.refl _ _⟩
 case round =>
  obtain⟨k,hk,rfl,hown,hbel⟩:=hrel
  by_cases hk32:k<32
  ·have hk0:(0:Int)≤(k:Int):=by omega
   have hk1:(k:Int)<32:=by omega
   have hkl:k<s.length:=by rw[Hs.out];exact hk32
   have hc:=(R0.out.grow hbel).cellAt k (bysA_get s k hkl)
   have ht:=take_one s k hkl
   generalize s.getD k 0=y at *
   have BA:=below_alloc (Below.refl wr.heap.size wr) (.cells #[.int .u8 (y:Int)] 5)
   obtain⟨v2,w2,hr2,hown2,hgr2⟩:=app_own (k:=1) (cap:=1) (hown.below BA) (Bs0.some (bytes_new wr [y] 5 (0,0))) rfl (fun h=>by cases h) (Nat.le_trans hbel.size BA.size) (by rw[List.length_take];simp only[List.length_cons,List.length_nil];omega)
   have Hb2:=Lib.hid (own_below (hbel.alloc hbel.size (.cells #[.int .u8 (y:Int)] 5)) (hown.below BA) (Nat.le_trans hbel.size BA.size) hgr2)
   have Ho2:=Lib.hid (show OwnB w2 W0.heap.size v2 (s.take (k+1)) by rw[←ht];exact hown2)
   clear hown2 hgr2 BA hown hbel ht hkl
   go_wp2_with (at_builtin;refine Lib.wpList_append_run _ rfl _ _ _ _ rfl _ _ rfl rfl _ _ hr2 ?_)
   go_wp2_with fail
   go_roundw
   case rel=>exact⟨k+1,by omega,by go_num,Ho2.out,Hb2.out⟩
   case measure=>simp[intOf];omega
  ·obtain rfl:k=32:=by omega
   have HO:=Lib.hid hown
   have HB:=Lib.hid hbel
   clear hown hbel
   go_wp2_with fail
   go_ret
   refine⟨_,rfl,?_,B0.out.trans (HB.out.mono B0.out.size)⟩
   have:=HO.out
   rw[List.take_of_length_le (by rw[Hs.out];exact Nat.le_refl _)] at this
   exact this.base B0.out.size
end Go.Proofs.YtddmjddlbhdcpaaGreatDoor

namespace Go.Proofs.YtddmjddlbhdcpaaGreatDoor
open Go.RowKit Go.Hold Go.Sh
def Sets (w:World) (g:Nat) (c:Array Value) (w':World):Prop:=∃ os d,w'=(w.setRow g c).plus os d
theorem Sets.refl {w:World} {g:Nat} {c:Array Value} (h:RowAt w g c):Sets w g c w:=⟨#[],w.drawn,by rw[setRow_self h];exact plus_none' w⟩
theorem Sets.size {w w':World} {g:Nat} {c:Array Value} (s:Sets w g c w'):w.heap.size≤w'.heap.size:=by
 obtain⟨os,d,rfl⟩:=s
 rw[World.size_plus,size_setRow];omega
theorem Sets.row {w w':World} {g:Nat} {c0 c:Array Value} (h:RowAt w g c0) (s:Sets w g c w'):RowAt w' g c:=by
 obtain⟨os,d,rfl⟩:=s
 exact(h.set c).grow (below_more (Below.refl _ _) os d)
theorem Sets.old {w w':World} {g n:Nat} {c c1:Array Value} (s:Sets w g c w') (h:RowAt w n c1) (hn:n≠g):RowAt w' n c1:=by
 obtain⟨os,d,rfl⟩:=s
 exact(h.other hn c).grow (below_more (Below.refl _ _) os d)
theorem Sets.bytes {w w':World} {g b o:Nat} {c:Array Value} {l:List Nat} (s:Sets w g c w') (h:BytesAt w b o l) (hn:b≠g):BytesAt w' b o l:=by
 obtain⟨os,d,rfl⟩:=s
 exact(h.other hn c).grow (below_more (Below.refl _ _) os d)
theorem Sets.grow {w w' w2:World} {g:Nat} {c:Array Value} (s:Sets w g c w') (hb:Below w'.heap.size w' w2):Sets w g c w2:=by
 obtain⟨os,d,rfl⟩:=s
 obtain⟨o2,d2,rfl⟩:=below_plus hb
 exact⟨os++o2,d2,by rw[World.plus_plus]⟩
theorem Sets.cell {w w':World} {g i:Nat} {c0 c:Array Value} {v:Value} (h:RowAt w g c0) (s:Sets w g c w'):Sets w g (c.setIfInBounds i v) (w'.setCell ⟨g,i,none⟩ v):=by
 obtain⟨os,d,rfl⟩:=s
 exact⟨os,d,by rw[World.setCell_plus _ _ _ _ _ _ (by rw[size_setRow];exact h.2.2),setCell_setRow h]⟩
theorem Sets.set {w w':World} {g:Nat} {c0 c c':Array Value} (h:RowAt w g c0) (s:Sets w g c w'):Sets w g c' (w'.setRow g c'):=by
 obtain⟨os,d,rfl⟩:=s
 exact⟨os,d,setRow_plus_all h⟩
theorem Sets.trans {w w' w2:World} {g:Nat} {c0 c c':Array Value} (h:RowAt w g c0) (s:Sets w g c w') (s2:Sets w' g c' w2):Sets w g c' w2:=by
 obtain⟨o2,d2,rfl⟩:=s2
 obtain⟨os,d,rfl⟩:=s
 exact⟨os++o2,d2,by rw[setRow_plus_all h,World.plus_plus]⟩
theorem Sets.below {a w w':World} {B g:Nat} {c:Array Value} (s:Sets w g c w') (hb:Below B a w) (hB:B≤g) (hBw:B≤w.heap.size):Below B a w':=by
 obtain⟨os,d,rfl⟩:=s
 refine below_plus_of _ _ _ ⟨hb.os,hb.tape,hb.output,by rw[size_setRow];exact hb.size,fun k hk=>?_⟩ (by rw[size_setRow];exact hBw)
 rw[setRow_other w g k c (by omega)];exact hb.block k hk
end Go.Proofs.YtddmjddlbhdcpaaGreatDoor

namespace Go.Proofs.YtddmjddlbhdcpaaGreatDoor
open Go.RowKit Go.Hold Go.Sh Go.Ch
theorem rl_eq (x:Int) (n k:Nat) (hk:n+k=32):o32 (x*2^n%4294967296) (x/2^k)=rl x n:=by
 unfold o32 rl rotr
 rw[or_comm32,show 32-n=k by omega,show 32-k=n by omega]
set_option maxHeartbeats 400000 in
theorem rotP (x:Int) (n k:Nat) (hk:n+k=32) (hn:0<n) (hk':0<k) (hb:bits .and .u64 (n:Int) 31=(n:Int)) (w:World):Calls Tryz.prog 183 #[.int .u32 x,.int .i64 (n:Int)] w fun e w'=>e=.returned (.int .u32 (rl x n))∧w'=w:=by
 have hs:IntKind.u64.wrap (32-(n:Int))=(k:Int):=by rw[IntWalk.u64_in _ (by omega)];omega
 have hw:IntKind.u64.wrap (n:Int)=(n:Int):=IntWalk.u64_in _ (by omega)
 have h1:(0:Int)≤(k:Int):=by omega
 have h2:(k:Int)≤32:=by omega
 have h3:(0:Int)≤(n:Int):=by omega
 have h4:(n:Int)≤32:=by omega
 have hr:=rl_eq x n k hk
 go_enter Tryz.func183,Tryz.ntmps183
 go_wp2_with fail
 go_ret
 exact⟨rfl,rfl⟩
theorem rotP_16 (x:Int) (w:World):Calls Tryz.prog 183 #[.int .u32 x,.int .i64 16] w fun e w'=>e=.returned (.int .u32 (rl x 16))∧w'=w:=rotP x 16 16 rfl (by decide) (by decide) (by decide +kernel) w
theorem rotP_12 (x:Int) (w:World):Calls Tryz.prog 183 #[.int .u32 x,.int .i64 12] w fun e w'=>e=.returned (.int .u32 (rl x 12))∧w'=w:=rotP x 12 20 rfl (by decide) (by decide) (by decide +kernel) w
theorem rotP_8 (x:Int) (w:World):Calls Tryz.prog 183 #[.int .u32 x,.int .i64 8] w fun e w'=>e=.returned (.int .u32 (rl x 8))∧w'=w:=rotP x 8 24 rfl (by decide) (by decide) (by decide +kernel) w
theorem rotP_7 (x:Int) (w:World):Calls Tryz.prog 183 #[.int .u32 x,.int .i64 7] w fun e w'=>e=.returned (.int .u32 (rl x 7))∧w'=w:=rotP x 7 25 rfl (by decide) (by decide) (by decide +kernel) w
@[go_sem ↓] theorem loadAt_cw (v:Value):Instr.loadAt 218 v=loadRow 218 v:=rfl
@[go_sem ↓] theorem loadAt_b64 (v:Value):Instr.loadAt 155 v=loadRow 155 v:=rfl
@[go_sem ↓] theorem loadAt_non (v:Value):Instr.loadAt 163 v=loadRow 163 v:=rfl
@[go_sem] theorem run_loadCw (w:World) (n:Nat) (h1:w.isRow n=true) (h2:(w.rowOf n).size=16):(loadRow 218 (.pointer (some ⟨n,0,none⟩))).run Tryz.prog w=.ok (.agg (w.rowOf n)) w:=run_loadRow w Tryz.underlying218 rfl (by kernel_rfl) n h1 h2
@[go_sem] theorem run_loadB64 (w:World) (n:Nat) (h1:w.isRow n=true) (h2:(w.rowOf n).size=64):(loadRow 155 (.pointer (some ⟨n,0,none⟩))).run Tryz.prog w=.ok (.agg (w.rowOf n)) w:=run_loadRow w Tryz.underlying155 rfl (by kernel_rfl) n h1 h2
@[go_sem] theorem run_loadNon (w:World) (n:Nat) (h1:w.isRow n=true) (h2:(w.rowOf n).size=12):(loadRow 163 (.pointer (some ⟨n,0,none⟩))).run Tryz.prog w=.ok (.agg (w.rowOf n)) w:=run_loadRow w Tryz.underlying163 rfl (by kernel_rfl) n h1 h2
@[go_sem ↓] theorem loadAt_b12 (v:Value):Instr.loadAt 126 v=loadRow 126 v:=rfl
@[go_sem] theorem run_loadB12 (w:World) (n:Nat) (h1:w.isRow n=true) (h2:(w.rowOf n).size=12):(loadRow 126 (.pointer (some ⟨n,0,none⟩))).run Tryz.prog w=.ok (.agg (w.rowOf n)) w:=run_loadRow w Tryz.underlying126 rfl (by kernel_rfl) n h1 h2
theorem results_cw {fn:Func} {p:Tmp} {cs:Array Value} (h:fn.results=#[.cell p 218]) (hc:cs.size=16) (w:World) (tmps:Array Value) (n:Nat) (hp:tmps.getD p undef=.pointer (some ⟨n,0,none⟩)) (h1:w.isRow n=true) (h2:w.rowOf n=cs):(results fn tmps).run Tryz.prog w=.ok (.agg cs) w :=
 results_row w h Tryz.underlying218 rfl (by rw[hc];kernel_rfl) tmps n hp h1 h2
theorem results_b64 {fn:Func} {p:Tmp} {cs:Array Value} (h:fn.results=#[.cell p 155]) (hc:cs.size=64) (w:World) (tmps:Array Value) (n:Nat) (hp:tmps.getD p undef=.pointer (some ⟨n,0,none⟩)) (h1:w.isRow n=true) (h2:w.rowOf n=cs):(results fn tmps).run Tryz.prog w=.ok (.agg cs) w :=
 results_row w h Tryz.underlying155 rfl (by rw[hc];kernel_rfl) tmps n hp h1 h2
@[go_sem ↓] theorem build_cw (ps:Array (Nat × Value)):Instr.build 218 ps=bldA 218 ps:=rfl
set_option maxRecDepth 100000 in
@[go_sem] theorem run_bldCw (w:World):(bldA 218 #[(0,.int .u32 1634760805),(1,.int .u32 857760878),(2,.int .u32 2036477234),(3,.int .u32 1797285236)]).run Tryz.prog w=.ok (.agg (wosA cst0)) w:=run_build w _ _ _ (by kernel_rfl)
theorem bysA_size' {l:List Nat} {n:Nat} (h:l.length=n):(bysA l).size=n:=by rw[bysA_size,h]
theorem wosA_size' {l:List Int} {n:Nat} (h:l.length=n):(wosA l).size=n:=by rw[wosA_size,h]
end Go.Proofs.YtddmjddlbhdcpaaGreatDoor

namespace Go.Proofs.YtddmjddlbhdcpaaGreatDoor
open Go.RowKit Go.Hold Go.Sh Go.Cm Go.Hd
def rhA (a:List Nat) (v:Value) (g:List Nat):Array Value:=bysA a++#[v]++bysA g
theorem rhA_size {a g:List Nat} (v:Value) (ha:a.length=32) (hg:g.length=16):(rhA a v g).size=49:=by simp[rhA,bysA_size,ha,hg]
@[go_sem] theorem rhA_al {a g:List Nat} (v:Value) (ha:a.length=32):(rhA a v g).extract 0 32=bysA a:=by
 unfold rhA
 have:(bysA a).size=32:=by rw[bysA_size,ha]
 rw[Array.append_assoc,←this,Array.extract_append_left]
 simp
@[go_sem] theorem rhA_ga {a g:List Nat} (v:Value) (ha:a.length=32) (hg:g.length=16):(rhA a v g).extract 33 49=bysA g:=by
 unfold rhA
 have h1:(bysA a++#[v]).size=33:=by simp[bysA_size,ha]
 have h2:(bysA g).size=16:=by rw[bysA_size,hg]
 rw[show (49:Nat)=33+(bysA g).size by omega,←h1]
 simp
theorem rhA_be {a g:List Nat} (v:Value) (ha:a.length=32):(rhA a v g)[32]?=some v:=by
 unfold rhA
 rw[Array.append_assoc,Array.getElem?_append_right (by rw[bysA_size,ha];exact Nat.le_refl _),bysA_size,ha,Array.getElem?_append_left (by simp)]
 rfl
theorem rhA_cells (a g:List Nat) (p:Option Addr) (n c:Nat):cellsAll [.agg (bysA a),.slice p n c,.agg (bysA g)]=(rhA a (.slice p n c) g).toList:=by
 show (Value.agg (bysA a)).cells.toList++((Value.slice p n c).cells.toList++((Value.agg (bysA g)).cells.toList++[]))=_
 rw[cells_bys,cells_bys,List.append_nil]
 unfold rhA
 simp[Value.cells,bysA]
set_option maxRecDepth 100000 in
theorem run_bldRHdr {a g:List Nat} (p:Option Addr) (n c:Nat) (ha:a.length=32) (hg:g.length=16) (w:World):(bldA 40 #[(0,.agg (bysA a)),(1,.slice p n c),(2,.agg (bysA g))]).run Tryz.prog w=.ok (.agg (rhA a (.slice p n c) g)) w:=by
 have sa:(bysA a).size=32:=by rw[bysA_size,ha]
 have sg:(bysA g).size=16:=by rw[bysA_size,hg]
 have:=run_build_all (P:=Tryz.prog) Tryz.underlying40 w [.agg (bysA a),.slice p n c,.agg (bysA g)]
  (by rw[rhA_cells,Array.length_toList,rhA_size _ ha hg];kernel_rfl)
  (by simp only[offs,Value.cells,sa,sg];kernel_rfl) #[(0,.agg (bysA a)),(1,.slice p n c),(2,.agg (bysA g))] rfl
 rw[rhA_cells,Array.toArray_toList] at this
 exact this
set_option maxRecDepth 100000 in
@[go_sem] theorem run_bldRHdr0 (w:World):(bldA 40 #[]).run Tryz.prog w=.ok (.agg (rhA (zs 32) (.slice none 0 0) (zs 16))) w:=run_build w _ _ _ (by kernel_rfl)
set_option maxRecDepth 100000 in
@[go_sem] theorem run_bldRHdr1 (p:Option Addr) (n c:Nat) (w:World):(bldA 40 #[(1,.slice p n c)]).run Tryz.prog w=.ok (.agg (rhA (zs 32) (.slice p n c) (zs 16))) w:=run_build w _ _ _ (by kernel_rfl)
def IsRH (w:World) (v:Value) (a b g:List Nat):Prop:=∃ p c,v=.agg (rhA a (.slice p b.length c) g)∧Bs0 w p b∧(p=none→c=0)
theorem IsRH.grow {w w':World} {v:Value} {a b g:List Nat} (h:IsRH w v a b g) (hb:Below w.heap.size w w'):IsRH w' v a b g:=by
 obtain⟨p,c,e,hB,hp⟩:=h
 exact⟨p,c,e,hB.grow hb,hp⟩
end Go.Proofs.YtddmjddlbhdcpaaGreatDoor

namespace Go.Proofs.YtddmjddlbhdcpaaGreatDoor
open Go.RowKit Go.Hold Go.Sh Go.Ch
end Go.Proofs.YtddmjddlbhdcpaaGreatDoor

namespace Go.Proofs.YtddmjddlbhdcpaaGreatDoor
open Go.RowKit Go.Hold Go.Sh Go.Ch
set_option maxRecDepth 100000 in
@[go_sem] theorem run_bldB4 (w:World) (a b c d:Nat):(bldB 4 #[(0,.int .u8 (a:Int)),(1,.int .u8 (b:Int)),(2,.int .u8 (c:Int)),(3,.int .u8 (d:Int))]).run Tryz.prog w=.ok (.slice (some ⟨w.heap.size,0,none⟩) 4 4) (w.alloc (.cells (bysA [a,b,c,d]) 5)):=by
 obtain⟨ie,h1,h2,h3,_⟩:=info_parts info_u8
 refine run_buildSlice w _ _ 4 _ (bysA [a,b,c,d]) ie _ Tryz.underlying38 h1 h2 (by rw[h3];decide) (by rw[h3];decide) ?_
 rw[h3];kernel_rfl
@[go_sem ↓] theorem fold_bldC (ps:Array (Nat × Value)):Instr.buildSlice 179 4 ps=bldS 179 4 ps:=rfl
set_option maxRecDepth 100000 in
@[go_sem] theorem run_bldC (w:World):(bldS 179 4 #[(0,.int .u32 1634760805),(1,.int .u32 857760878),(2,.int .u32 2036477234),(3,.int .u32 1797285236)]).run Tryz.prog w=.ok (.slice (some ⟨w.heap.size,0,none⟩) 4 4) (w.alloc (.cells (wosA cst) 129)):=by
 obtain⟨ie,h1,h2,h3,_⟩:=info_parts info_u32
 refine run_buildSlice w _ _ 4 _ (wosA cst) ie _ Tryz.underlying179 h1 h2 (by rw[h3];decide) (by rw[h3];decide) ?_
 rw[h3];kernel_rfl
end Go.Proofs.YtddmjddlbhdcpaaGreatDoor

namespace Go.Proofs.YtddmjddlbhdcpaaGreatDoor
open Go.RowKit Go.Hold Go.Sh Go.Ch
theorem Sets.words {w w':World} {g b:Nat} {c:Array Value} {l:List Int} (s:Sets w g c w') (h:WordsAt w b l) (hn:b≠g):WordsAt w' b l:=by
 obtain⟨os,d,rfl⟩:=s
 have h1:WordsAt (w.setRow g c) b l:=⟨by rw[size_setRow];exact h.1,fun i hi=>by rw[World.cell?_of_block (w:=w) (setRow_other w g b c hn)];exact h.2 i hi⟩
 exact h1.grow (below_more (Below.refl _ _) os d)
end Go.Proofs.YtddmjddlbhdcpaaGreatDoor

namespace Go.Ch
open Go Go.Sh
end Go.Ch
namespace Go.Proofs.YtddmjddlbhdcpaaGreatDoor
open Go.RowKit Go.Hold Go.Sh Go.Ch
theorem rowAt_grown {w w':World} {g:Nat} {c:Array Value} {r:Option Nat} (h:RowAt w g c) (hg:w.grownBy w' r) (hn:r≠some g):RowAt w' g c:=by
 obtain⟨t,ht⟩:=h.block
 exact RowAt.of (t:=t) (by rw[hg.block g h.2.2 (by intro e;exact hn (by rw[e]))];exact ht)
end Go.Proofs.YtddmjddlbhdcpaaGreatDoor

namespace Go.Cm
open Go
def beqC (a b:Cmd):Bool:=(a.k == b.k) && ((a.n == b.n) && ((a.d == b.d) && decide (a.id=b.id)))
theorem beqC_iff {a b:Cmd}:beqC a b=true↔a=b:=by
 obtain⟨a1,a2,a3,a4⟩:=a
 obtain⟨b1,b2,b3,b4⟩:=b
 simp[beqC]
theorem beqC_self (a:Cmd):beqC a a=true:=beqC_iff.2 rfl
end Go.Cm
namespace Go.Proofs.YtddmjddlbhdcpaaGreatDoor
open Go.RowKit Go.Hold Go.Sh Go.Cm
@[go_sem ↓] theorem loadAt_rcmd (v:Value):Instr.loadAt 57 v=loadRow 57 v:=rfl
@[go_sem] theorem run_loadRCmd (w:World) (n:Nat) (h1:w.isRow n=true) (h2:(w.rowOf n).size=11):(loadRow 57 (.pointer (some ⟨n,0,none⟩))).run Tryz.prog w=.ok (.agg (w.rowOf n)) w:=run_loadRow w Tryz.underlying57 rfl (by kernel_rfl) n h1 h2
@[go_sem ↓] theorem loadAt_b8 (v:Value):Instr.loadAt 48 v=loadRow 48 v:=rfl
@[go_sem] theorem run_loadB8 (w:World) (n:Nat) (h1:w.isRow n=true) (h2:(w.rowOf n).size=11):(loadRow 48 (.pointer (some ⟨n,3,none⟩))).run Tryz.prog w=.ok (.agg ((w.rowOf n).extract 3 11)) w:=run_loadMid (k:=8) Tryz.underlying48 rfl (by kernel_rfl) w n h1 (by omega)
@[go_sem ↓] theorem build_rcmd (ps:Array (Nat × Value)):Instr.build 57 ps=bldA 57 ps:=rfl
@[go_sem ↓] theorem build_b8 (ps:Array (Nat × Value)):Instr.build 48 ps=bldA 48 ps:=rfl
@[go_sem] theorem run_bldRCmd0 (w:World):(bldA 57 #[]).run Tryz.prog w=.ok (.agg (cmdA .zero)) w:=run_build w _ _ _ (by kernel_rfl)
@[go_sem] theorem run_bldRCmd3 (k n d:Int) (w:World):(bldA 57 #[(0,.int .i64 k),(1,.int .i64 n),(2,.int .i64 d)]).run Tryz.prog w=.ok (.agg (cmdA ⟨k,n,d,zs 8⟩)) w:=run_build w _ _ _ (by kernel_rfl)
@[go_sem] theorem run_bldB8 (w:World):(bldA 48 #[]).run Tryz.prog w=.ok (.agg (bysA (zs 8))) w:=run_build w _ _ _ (by kernel_rfl)
@[go_sem ↓ high] theorem fold_eq8 (a:Operand→Value) (d:Option Tmp) (op:BinOp) (x y:Operand) (u t:TypeId) (p:String) (af:Array Edge) (g:Option (Nat × Bool)) :
  execOp a ⟨d,.binOp op 48 x y u,t,p,af,g⟩=(do pure (.value (←eqV op 48 x y (a x) (a y)))):=rfl
@[go_sem] theorem run_eq8 (x y:Operand) (l m:List Nat) (hl:l.length=8) (hm:m.length=8) (w:World) :
  (eqV .eql 48 x y (.agg (bysA l)) (.agg (bysA m))).run Tryz.prog w=.ok (.bool (decide (l=m))) w:=run_eqV Tryz.underlying48 (by kernel_rfl) x y hl hm w
@[go_sem ↓ high] theorem fold_eqCmd (a:Operand→Value) (d:Option Tmp) (op:BinOp) (x y:Operand) (u t:TypeId) (p:String) (af:Array Edge) (g:Option (Nat × Bool)) :
  execOp a ⟨d,.binOp op 57 x y u,t,p,af,g⟩=(do pure (.value (←eqV op 57 x y (a x) (a y)))):=rfl
set_option maxRecDepth 100000 in
theorem part_int {c:Cmd} {i:Nat} {v:Int} (h:(cmdA c)[i]?=some (.int .i64 v)) (w:World):(part 3 (cmdA c) i).run Tryz.prog w=.ok (.int .i64 v) w:=by
 have hag:(isAgg 3).run Tryz.prog w=.ok false w:=by unfold isAgg;rw[Sem.run_bind,run_underlying Tryz.underlying3 w];simp
 unfold part
 rw[Sem.run_bind,hag]
 simp[h]
set_option maxRecDepth 100000 in
theorem part_id {c:Cmd} (hc:c.id.length=8) (w:World):(part 48 (cmdA c) 3).run Tryz.prog w=.ok (.agg (bysA c.id)) w:=by
 have hag:(isAgg 48).run Tryz.prog w=.ok true w:=by unfold isAgg;rw[Sem.run_bind,run_underlying Tryz.underlying48 w];simp
 unfold part
 rw[Sem.run_bind,hag]
 simp[cmdA_ext c hc]
set_option maxRecDepth 100000 in
theorem equalIn_cmd (d:Nat) {a b:Cmd} (ha:a.id.length=8) (hb:b.id.length=8) (w:World) :
  (Op.equalIn (d+4) 57 (.agg (cmdA a)) (.agg (cmdA b))).run Tryz.prog w=.ok (beqC a b) w:=by
 rw[run_equalIn_struct w (d+3) 57 (cmdA a) (cmdA b) (by kernel_rfl) (by kernel_rfl)]
 obtain⟨f0,f1,f2,f3,hf,n0,n1,n2,n3,t0,t1,t2,t3,o0,o1,o2,o3⟩:∃ f0 f1 f2 f3:Field,(Tryz.prog.fieldsOf 57).toList=[f0,f1,f2,f3]∧f0.name ≠ "_"∧f1.name ≠ "_"∧f2.name ≠ "_"∧f3.name ≠ "_"∧f0.type=3∧f1.type=3∧f2.type=3∧f3.type=48∧f0.offset=0∧f1.offset=1∧f2.offset=2∧f3.offset=3 :=
  ⟨_,_,_,_,rfl,by decide +kernel,by decide +kernel,by decide +kernel,by decide +kernel,by kernel_rfl,by kernel_rfl,by kernel_rfl,by kernel_rfl,by kernel_rfl,by kernel_rfl,by kernel_rfl,by kernel_rfl⟩
 rw[hf]
 simp only[Op.eqFields,n0,n1,n2,n3,t0,t1,t2,t3,o0,o1,o2,o3,ne_eq,not_false_eq_true,if_true,Sem.run_bind,part_int (cmdA_0 a),part_int (cmdA_0 b),Result.andThen_ok]
 rw[run_equalIn_int w (d+2) 3 .i64 .i64 a.k b.k Tryz.underlying3]
 unfold beqC
 cases h0:(a.k == b.k)
 ·simp
 ·simp only[Result.andThen_ok,Bool.not_true,Bool.false_eq_true,if_false,Bool.true_and,Sem.run_bind,part_int (cmdA_1 a),part_int (cmdA_1 b)]
  rw[run_equalIn_int w (d+2) 3 .i64 .i64 a.n b.n Tryz.underlying3]
  cases h1:(a.n == b.n)
  ·simp
  ·simp only[Result.andThen_ok,Bool.not_true,Bool.false_eq_true,if_false,Bool.true_and,Sem.run_bind,part_int (cmdA_2 a),part_int (cmdA_2 b)]
   rw[run_equalIn_int w (d+2) 3 .i64 .i64 a.d b.d Tryz.underlying3]
   cases h2:(a.d == b.d)
   ·simp
   ·simp only[Result.andThen_ok,Bool.not_true,Bool.false_eq_true,if_false,Bool.true_and,Sem.run_bind,part_id ha,part_id hb]
    rw[equalIn_bytes Tryz.underlying48 d ha hb]
    cases decide (a.id=b.id)<;>simp
set_option maxRecDepth 100000 in
@[go_sem] theorem run_eqCmd (x y:Operand) (a b:Cmd) (ha:a.id.length=8) (hb:b.id.length=8) (w:World) :
  (eqV .eql 57 x y (.agg (cmdA a)) (.agg (cmdA b))).run Tryz.prog w=.ok (.bool (beqC a b)) w:=by
 unfold eqV
 rw[Sem.run_bind,run_eqGuard_agg w .eql 57 x y _ _ (by kernel_rfl),Result.andThen_ok,run_eql_struct,show (10000:Nat)=9996+4 from rfl,equalIn_cmd 9996 ha hb]
 rfl
set_option maxRecDepth 100000 in
@[go_sem] theorem run_neCmd (x y:Operand) (a b:Cmd) (ha:a.id.length=8) (hb:b.id.length=8) (w:World) :
  (eqV .neq 57 x y (.agg (cmdA a)) (.agg (cmdA b))).run Tryz.prog w=.ok (.bool (!beqC a b)) w:=by
 unfold eqV
 rw[Sem.run_bind,run_eqGuard_agg w .neq 57 x y _ _ (by kernel_rfl),Result.andThen_ok,run_neq_struct,show (10000:Nat)=9996+4 from rfl,equalIn_cmd 9996 ha hb]
 rfl
theorem results_b16a {fn:Func} {p:Tmp} (h:fn.results=#[.cell p 28]) (l:List Nat) (hl:l.length=16) (w:World) (tmps:Array Value) (n:Nat) (hp:tmps.getD p undef=.pointer (some ⟨n,0,none⟩)) (h1:w.isRow n=true) (h2:w.rowOf n=bysA l):(results fn tmps).run Tryz.prog w=.ok (.agg (bysA l)) w :=
 results_row w h Tryz.underlying28 rfl (by rw[bysA_size,hl];kernel_rfl) tmps n hp h1 h2
end Go.Proofs.YtddmjddlbhdcpaaGreatDoor

namespace Go.Proofs.YtddmjddlbhdcpaaGreatDoor
open Go.RowKit Go.Hold Go.Sh Go.Cm
end Go.Proofs.YtddmjddlbhdcpaaGreatDoor

namespace Go.Proofs.YtddmjddlbhdcpaaGreatDoor
open Go.RowKit Go.Hold Go.Sh Go.Cm
def encP (k n d:Nat) (id:List Nat) (j:Nat):List Nat:=[k,n,0,d]++id.take j++zs (12-j)
end Go.Proofs.YtddmjddlbhdcpaaGreatDoor

namespace Go.Proofs.YtddmjddlbhdcpaaGreatDoor
open Go.RowKit Go.Hold Go.Sh
def Apart (v u:Value):Prop:=v.ownBlock=none∨v.ownBlock≠u.ownBlock
theorem app_two {w:World} {B:Nat} {v u:Value} {l m:List Nat} {y z:Nat} (hv:OwnB w B v l) (hu:OwnB w B u m) (hap:Apart v u) (hB:B≤w.heap.size) (hl:l.length+1≤16777216) (hm:m.length+1≤16777216) :
  ∃ v' w1 u' w2,(Builtin.append_ #[38,38] 38 #[v,.slice (some ⟨w.heap.size,0,none⟩) 1 1]).run Tryz.prog (w.alloc (.cells #[.int .u8 (y:Int)] 5))=.ok v' w1 ∧
   (Builtin.append_ #[38,38] 38 #[u,.slice (some ⟨w1.heap.size,0,none⟩) 1 1]).run Tryz.prog (w1.alloc (.cells #[.int .u8 (z:Int)] 5))=.ok u' w2 ∧
   OwnB w2 B v' (l++[y])∧OwnB w2 B u' (m++[z])∧Apart v' u'∧Below B w w2:=by
 have BA:=below_alloc (Below.refl w.heap.size w) (.cells #[.int .u8 (y:Int)] 5)
 obtain⟨v',w1,hr1,ho1,hg1,hd1⟩:=app_at (hv.below BA) (bytes_new w [y] 5 (0,0)) (Nat.le_trans hB BA.size) hl
 have hu0:∀ k,u.ownBlock=some k→B≤k∧k<w.heap.size:=fun k hk=>hu.ltb k hk
 have hu1:OwnB w1 B u m:=(hu.below BA).kept hg1 (by
  cases hub:u.ownBlock with
  | none=>exact .inl rfl
  | some k =>
   right
   rcases hap with h | h
   ·rw[h];simp
   ·rw[←hub];exact fun e=>h e.symm)
 have B1:Below B w w1:=own_below ((Below.refl B w).alloc hB _) (hv.below BA) (Nat.le_trans hB BA.size) hg1
 have hB1:B≤w1.heap.size:=Nat.le_trans hB B1.size
 have hs1:w.heap.size+1≤w1.heap.size:=by have:=hg1.size;simpa using this
 have BA2:=below_alloc (Below.refl w1.heap.size w1) (.cells #[.int .u8 (z:Int)] 5)
 obtain⟨u',w2,hr2,ho2,hg2,hd2⟩:=app_at (hu1.below BA2) (bytes_new w1 [z] 5 (0,0)) (Nat.le_trans hB1 BA2.size) hm
 have hne:v'.ownBlock=none∨v'.ownBlock≠u.ownBlock:=by
  rcases hd1 with h | h
  ·rw[h];exact hap
  ·right
   rw[h]
   intro e
   have:=(hu0 _ e.symm).2
   rw[World.size_alloc] at this
   omega
 refine⟨v',w1,u',w2,hr1,hr2,(ho1.below BA2).kept hg2 hne,ho2,?_,own_below (B1.alloc hB1 _) (hu1.below BA2) (Nat.le_trans hB1 BA2.size) hg2⟩
 cases hvb:v'.ownBlock with
 | none=>exact .inl hvb
 | some k =>
  right
  rcases hd2 with h | h
  ·rw[h]
   rcases hne with h' | h'
   ·rw[h'] at hvb;cases hvb
   ·exact h'
  ·rw[h,hvb]
   intro e
   have:=(ho1.ltb k hvb).2
   cases e
   rw[World.size_alloc] at this
   omega
end Go.Proofs.YtddmjddlbhdcpaaGreatDoor

namespace Go.Proofs.YtddmjddlbhdcpaaGreatDoor
open Go.RowKit Go.Hold Go.Sh
theorem shift_byte (a i:Nat):((a:Nat):Int)/2^(8*i)%256=((a/256^i%256:Nat):Int):=by
 rw[show (256:Nat)^i=2^(8*i) by rw[Nat.pow_mul]]
 simp
set_option maxHeartbeats 4000000 in
set_option maxRecDepth 100000 in
theorem padded_c (cap:Nat) (p:Option Addr) (l:List Nat) (w:World) (hl:l.length≤100000) (hB:Bs0 w p l) (hpc:p=none→cap=0) :
  Calls Tryz.prog 118 #[.slice p l.length cap] w fun e w'=>∃ g c,e=.returned (.slice (some ⟨g,0,none⟩) (pad l).length c)∧BytesAt w' g 0 (pad l)∧(pad l).length≤c∧Below w.heap.size w w':=by
 obtain⟨i0,hi,hz0,hz1,hz2⟩:=info_parts info_u8
 have HB:=Lib.hid hB
 obtain⟨n,en⟩:∃ n,n=l.length:=⟨_,rfl⟩
 have hgap:gap n<64:=by unfold gap;omega
 rw[←en] at hl ⊢
 have En:=Lib.hid en
 obtain⟨N,eN⟩:∃ N,N=n*8:=⟨_,rfl⟩
 have hN1:IntKind.u64.wrap (n:Int)=(n:Int):=by rw[IntWalk.u64_in _ (by omega)]
 have hN2:IntKind.u64.wrap ((n:Int)*8)=(N:Int):=by rw[IntWalk.u64_in _ (by omega),eN];omega
 have EN:=Lib.hid eN
 obtain⟨B,eB⟩:∃ B,B=w.heap.size:=⟨_,rfl⟩
 have EB:=Lib.hid eB
 have hBw:B≤w.heap.size:=by omega
 clear en eN eB
 cases p with
 | none =>
  have hl0:l=[]:=by
   rcases hB with h | ⟨b,o,h,_⟩
   ·exact h
   ·cases h
  have hn0:n=0:=by rw[En.out,hl0];rfl
  obtain rfl:cap=0:=hpc rfl
  clear hB hpc
  have Hn0:=Lib.hid hn0
  have Hl0:=Lib.hid hl0
  clear hn0 hl0
  have Hown:=Lib.hid (show OwnB (w.alloc (.cells #[] 5)) B (.slice (some ⟨w.heap.size,0,none⟩) 0 0) l by rw[Hl0.out];exact ownB_empty w B hBw)
  have Hbel:=Lib.hid (show Below B w (w.alloc (.cells #[] 5)) from ((Below.refl w.heap.size w).alloc (Nat.le_refl _) _).mono hBw)
  have hsz:B≤(w.alloc (.cells #[] 5)).heap.size:=by simp;omega
  go_enter Tryz.func118,Tryz.ntmps118
  go_wp2_with (at_builtin;first | refine wpList_append_own_none rfl _ _ 38 rfl B 5 i0 1 Tryz.underlying38 hi _ _ _ rfl (ownB_empty w B hBw) (congrArg (fun k=>Value.slice none k 0) Hn0.out) ?_ | refine wpList_append_own _ rfl _ _ 38 rfl B 5 i0 (.int .u8 0) 1 1 Tryz.underlying38 hi hz0 hz1 hz2 rfl (by decide) _ _ _ rfl (owns_below Hown.out (below_alloc (Below.refl _ _) _)) ⟨w.heap.size+1,0,none⟩ 1 1 [.int .u8 128] rfl rfl (one_cell' (by simp)) (fun u hu=>by simp at hu;subst hu;rfl) (maxLen_small (show l.length+1≤16777216 by have:=En.out;omega)) (by have:=(show l.length+1≤16777216 by have:=En.out;omega);omega) (by simp;omega) ?_)
  intro v2 w2 hown2 hgrow2 _
  have Hb2:=Lib.hid (grown_below (Hbel.out.alloc hsz _) (owns_below Hown.out (below_alloc (Below.refl _ _) (.cells #[.int .u8 128] 5))) (by simp;omega) hgrow2)
  have Ho2:=Lib.hid (OwnB.snoc (m:=[128]) hown2)
  have hsz2:B≤w2.heap.size:=by have:=hgrow2.size;simp at this;omega
  clear hown2 hgrow2 Hown Hbel hsz
  obtain⟨g2,c2,ev2,hg2,hgl2,hc2⟩:=Ho2.out.addr (k:=n+1) (by rw[List.length_append,←En.out];rfl) (by omega)
  subst ev2
  go_wp2_with fail
  go_loopw [3] (fun v wr=>∃ k len g c:Nat,k≤gap n∧len=n+1+k∧v=.slice (some ⟨g,0,none⟩) len c∧OwnB wr B v (l++[128]++zs k)∧Below B w wr∧B≤wr.heap.size) (fun v _=>match v with | .slice _ len _=>(n+1+gap n)-len | _=>0)
  case atStart=>exact⟨0,n+1,g2,c2,Nat.zero_le _,rfl,rfl,by rw[show zs 0=[] from rfl,List.append_nil];exact Ho2.out,Hb2.out,hsz2⟩
  case round =>
   obtain⟨k,len,g,c,hk,hlen,rfl,hown,hbel,hsz⟩:=hrel
   have hgs:=gap_step n k hk
   rw[←hlen] at hgs
   have hll:(l++[128]++zs k).length=len:=by rw[List.length_append,List.length_append,zs_length,←En.out,hlen];rfl
   have htm:=cast_tmod64' len
   obtain⟨L,eL⟩:∃ L,L=l++[128]++zs k:=⟨_,rfl⟩
   rw[←eL] at hown hll
   have HL:=Lib.hid eL
   clear eL
   have Hown:=Lib.hid hown
   have Hbel:=Lib.hid hbel
   have HLL:=Lib.hid hll
   clear hown hbel hll
   by_cases hkg:k=gap n
   ·have hm:((len%64:Nat):Int)=56:=by omega
    rw[hm] at htm
    have Hlen:=Lib.hid hlen
    have Hkg:=Lib.hid hkg
    clear hlen hgs hm hkg
    go_wp2_with fail
    obtain⟨W3,eW3⟩:∃ x,x=wr:=⟨_,rfl⟩
    rw[←eW3] at Hown Hbel hsz ⊢
    clear eW3
    go_loopw [3,5] (fun v i wr=>∃ (j:Nat) (z:Int) (g c:Nat),j≤8∧z=7-(j:Int)∧i=.int .i64 z∧v=.slice (some ⟨g,0,none⟩) (len+j) c∧OwnB wr B v (L++(len8 n).take j)∧Below B w wr∧B≤wr.heap.size) (fun _ i _=>(intOf i+1).toNat)
    case atStart=>exact⟨0,7,g,c,by decide,rfl,rfl,rfl,by rw[List.take_zero,List.append_nil];exact Hown.out,Hbel.out,hsz⟩
    case round =>
     obtain⟨j,z,g,c,hj,hz,rfl,rfl,hown,hbel,hsz⟩:=hrel
     have hlj:(L++(len8 n).take j).length=len+j:=by rw[List.length_append,HLL.out,List.length_take,len8_length];omega
     obtain⟨M,eM⟩:∃ M,M=L++(len8 n).take j:=⟨_,rfl⟩
     rw[←eM] at hown hlj
     have HM:=Lib.hid eM
     have Hown:=Lib.hid hown
     have Hbel:=Lib.hid hbel
     have HLJ:=Lib.hid hlj
     clear eM hlj
     clear hown hbel
     by_cases hj8:j<8
     ·have hz0':(0:Int)≤z:=by omega
      obtain⟨y,ey⟩:∃ y,y=8*(7-j):=⟨_,rfl⟩
      have hw1:IntKind.i64.wrap (8*z)=(y:Int):=by rw[IntWalk.i64_in _ (by omega)];omega
      have hw2:IntKind.u64.wrap (y:Int)=(y:Int):=by rw[IntWalk.u64_in _ (by omega)]
      have hy0:(0:Int)≤(y:Int):=by omega
      have hy1:(y:Int)≤64:=by omega
      obtain⟨x,ex⟩:∃ x,x=n*8/256^(7-j)%256:=⟨_,rfl⟩
      have hx:(N:Int)/2^y%256=(x:Int):=by
       rw[ex,ey,EN.out];exact shift_byte _ _
      have Hx:=Lib.hid ex
      have hz1:z-1=7-((j+1:Nat):Int):=by omega
      have Hz:=Lib.hid hz
      have Hz1:=Lib.hid hz1
      obtain⟨z',ez'⟩:∃ y,y=z-1:=⟨_,rfl⟩
      rw[←ez'] at Hz1
      have hzz:IntKind.i64.wrap (z-1)=z':=by rw[IntWalk.i64_in _ (by omega),ez']
      have Hz':=Lib.hid ez'
      have hzp:0≤z'+1:=by omega
      clear ex ey hz hz1 ez'
      go_wp2_with (at_builtin;refine wpList_append_own _ rfl _ _ 38 rfl B 5 i0 (.int .u8 0) 1 1 Tryz.underlying38 hi hz0 hz1 hz2 rfl (by decide) _ _ _ rfl (owns_below Hown.out (below_alloc (Below.refl _ _) _)) ⟨wr.heap.size,0,none⟩ 1 1 [.int .u8 (x:Int)] rfl rfl one_cell (fun u hu=>by simp at hu;subst hu;rfl) (maxLen_small (show M.length+1≤16777216 by rw[HLJ.out];have:=Hlen.out;have:=Hkg.out;omega)) (by have:=(show M.length+1≤16777216 by rw[HLJ.out];have:=Hlen.out;have:=Hkg.out;omega);omega) (by simp;omega) ?_)
      intro v' w4 hown4 hgrow4 _
      have Hb4:=Lib.hid (grown_below (Hbel.out.alloc hsz _) (owns_below Hown.out (below_alloc (Below.refl _ _) (.cells #[.int .u8 (x:Int)] 5))) (by simp;omega) hgrow4)
      have Ho4:=Lib.hid (OwnB.snoc (m:=[x]) hown4)
      have hsz4:B≤w4.heap.size:=by have:=hgrow4.size;simp at this;omega
      clear hown4 hgrow4
      obtain⟨g4,c4,ev4,_,_,_⟩:=Ho4.out.addr (k:=len+(j+1)) (by rw[List.length_append,HLJ.out];rfl) (by omega)
      subst ev4
      go_wp2_with fail
      go_roundw
      case rel=>exact⟨j+1,z',g4,c4,by omega,Hz1.out,rfl,rfl,by rw[len8_take n j hj8,←Hx.out,←List.append_assoc,←HM.out];exact Ho4.out,Hb4.out,hsz4⟩
      case measure=>have:=Hz'.out;simp[intOf];omega
     ·obtain rfl:j=8:=by omega
      have hzn:¬(0:Int)≤z:=by omega
      have epad:M=pad l:=by
       rw[HM.out,HL.out]
       unfold pad
       rw[List.take_of_length_le (by rw[len8_length];exact Nat.le_refl _),Hkg.out,En.out]
       simp
      rw[epad] at Hown HLJ
      obtain⟨g5,c5,ev5,hg5,hgl5,hc5⟩:=Hown.out.addr HLJ.out (by have:=Hlen.out;omega)
      cases ev5
      have Hc5:=Lib.hid (show (pad l).length≤_ by rw[HLJ.out];exact hc5)
      clear epad hc5
      go_wp2_with fail
      go_ret
      exact⟨g,c,(by show Ending.returned (.slice (some ⟨g,0,none⟩) (len+8) c)=Ending.returned (.slice (some ⟨g,0,none⟩) (pad l).length c);rw[HLJ.out]),Hown.out.bytes hgl5,Hc5.out,by rw[←EB.out];exact Hbel.out⟩
   ·have hm:((len%64:Nat):Int)≠56:=by omega
    obtain⟨md,emd⟩:∃ x,x=len%64:=⟨_,rfl⟩
    rw[←emd] at htm hm
    clear emd
    go_wp2_with (at_builtin;refine wpList_append_own _ rfl _ _ 38 rfl B 5 i0 (.int .u8 0) 1 1 Tryz.underlying38 hi hz0 hz1 hz2 rfl (by decide) _ _ _ rfl (owns_below Hown.out (below_alloc (Below.refl _ _) _)) ⟨wr.heap.size,0,none⟩ 1 1 [.int .u8 0] rfl rfl one_cell (fun u hu=>by simp at hu;subst hu;rfl) (maxLen_small (show L.length+1≤16777216 by rw[HLL.out];omega)) (by have:=(show L.length+1≤16777216 by rw[HLL.out];omega);omega) (by simp;omega) ?_)
    intro v' w4 hown4 hgrow4 _
    have Hb4:=Lib.hid (grown_below (Hbel.out.alloc hsz _) (owns_below Hown.out (below_alloc (Below.refl _ _) (.cells #[.int .u8 0] 5))) (by simp;omega) hgrow4)
    have Ho4:=Lib.hid (OwnB.snoc (m:=[0]) hown4)
    have hsz4:B≤w4.heap.size:=by have:=hgrow4.size;simp at this;omega
    clear hown4 hgrow4
    obtain⟨g4,c4,ev4,_,_,_⟩:=Ho4.out.addr (k:=len+1) (by rw[List.length_append,HLL.out];rfl) (by omega)
    subst ev4
    go_wp2_with fail
    go_roundw
    case rel=>exact⟨k+1,len+1,g4,c4,by omega,by omega,rfl,by rw[←zs_snoc,←List.append_assoc,←HL.out];exact Ho4.out,Hb4.out,hsz4⟩
    case measure=>simp;omega
 | some ad =>
  have hnews:∀ (o:Obj) j u,(bys l)[j]?=some u→(w.alloc o).cell? (ad.add j)=some u:=fun ob j u hu=>by
   rcases hB with h | ⟨b,o,h,hy⟩
   ·subst h;simp[bys] at hu
   ·cases h;exact bys_at (hy.grow (below_alloc (Below.refl _ _) _)) j u hu
  clear hB hpc
  go_enter Tryz.func118,Tryz.ntmps118
  go_wp2_with (at_builtin;refine wpList_append_own _ rfl _ _ 38 rfl B 5 i0 (.int .u8 0) 1 1 Tryz.underlying38 hi hz0 hz1 hz2 rfl (by decide) _ _ _ rfl (ownB_empty w B hBw) ad n cap (bys l) rfl (by rw[bys_length,←En.out,Nat.mul_one]) (hnews _) (bys_one l) (maxLen_small (by simp;omega)) (by simp;omega) (by simp;omega) ?_)
  intro v1 w1 hown1 hgrow1 _
  have Hbel:=Lib.hid (grown_below (((Below.refl w.heap.size w).alloc (Nat.le_refl _) _).mono hBw) (ownB_empty w B hBw) (by simp;omega) hgrow1)
  have Hown:=Lib.hid (show OwnB w1 B v1 l from (by unfold OwnB;rw[←En.out];exact hown1))
  have hsz:B≤w1.heap.size:=by have:=hgrow1.size;simp at this;omega
  clear hown1 hgrow1 hnews
  go_wp2_with (at_builtin;refine wpList_append_own _ rfl _ _ 38 rfl B 5 i0 (.int .u8 0) 1 1 Tryz.underlying38 hi hz0 hz1 hz2 rfl (by decide) _ _ _ rfl (owns_below Hown.out (below_alloc (Below.refl _ _) _)) ⟨w1.heap.size,0,none⟩ 1 1 [.int .u8 128] rfl rfl one_cell (fun u hu=>by simp at hu;subst hu;rfl) (maxLen_small (show l.length+1≤16777216 by have:=En.out;omega)) (by have:=(show l.length+1≤16777216 by have:=En.out;omega);omega) (by simp;omega) ?_)
  intro v2 w2 hown2 hgrow2 _
  have Hb2:=Lib.hid (grown_below (Hbel.out.alloc hsz _) (owns_below Hown.out (below_alloc (Below.refl _ _) (.cells #[.int .u8 128] 5))) (by simp;omega) hgrow2)
  have Ho2:=Lib.hid (OwnB.snoc (m:=[128]) hown2)
  have hsz2:B≤w2.heap.size:=by have:=hgrow2.size;simp at this;omega
  clear hown2 hgrow2 Hown Hbel hsz
  obtain⟨g2,c2,ev2,hg2,hgl2,hc2⟩:=Ho2.out.addr (k:=n+1) (by rw[List.length_append,←En.out];rfl) (by omega)
  subst ev2
  go_wp2_with fail
  go_loopw [3] (fun v wr=>∃ k len g c:Nat,k≤gap n∧len=n+1+k∧v=.slice (some ⟨g,0,none⟩) len c∧OwnB wr B v (l++[128]++zs k)∧Below B w wr∧B≤wr.heap.size) (fun v _=>match v with | .slice _ len _=>(n+1+gap n)-len | _=>0)
  case atStart=>exact⟨0,n+1,g2,c2,Nat.zero_le _,rfl,rfl,by rw[show zs 0=[] from rfl,List.append_nil];exact Ho2.out,Hb2.out,hsz2⟩
  case round =>
   obtain⟨k,len,g,c,hk,hlen,rfl,hown,hbel,hsz⟩:=hrel
   have hgs:=gap_step n k hk
   rw[←hlen] at hgs
   have hll:(l++[128]++zs k).length=len:=by rw[List.length_append,List.length_append,zs_length,←En.out,hlen];rfl
   have htm:=cast_tmod64' len
   obtain⟨L,eL⟩:∃ L,L=l++[128]++zs k:=⟨_,rfl⟩
   rw[←eL] at hown hll
   have HL:=Lib.hid eL
   clear eL
   have Hown:=Lib.hid hown
   have Hbel:=Lib.hid hbel
   have HLL:=Lib.hid hll
   clear hown hbel hll
   by_cases hkg:k=gap n
   ·have hm:((len%64:Nat):Int)=56:=by omega
    rw[hm] at htm
    have Hlen:=Lib.hid hlen
    have Hkg:=Lib.hid hkg
    clear hlen hgs hm hkg
    go_wp2_with fail
    obtain⟨W3,eW3⟩:∃ x,x=wr:=⟨_,rfl⟩
    rw[←eW3] at Hown Hbel hsz ⊢
    clear eW3
    go_loopw [3,5] (fun v i wr=>∃ (j:Nat) (z:Int) (g c:Nat),j≤8∧z=7-(j:Int)∧i=.int .i64 z∧v=.slice (some ⟨g,0,none⟩) (len+j) c∧OwnB wr B v (L++(len8 n).take j)∧Below B w wr∧B≤wr.heap.size) (fun _ i _=>(intOf i+1).toNat)
    case atStart=>exact⟨0,7,g,c,by decide,rfl,rfl,rfl,by rw[List.take_zero,List.append_nil];exact Hown.out,Hbel.out,hsz⟩
    case round =>
     obtain⟨j,z,g,c,hj,hz,rfl,rfl,hown,hbel,hsz⟩:=hrel
     have hlj:(L++(len8 n).take j).length=len+j:=by rw[List.length_append,HLL.out,List.length_take,len8_length];omega
     obtain⟨M,eM⟩:∃ M,M=L++(len8 n).take j:=⟨_,rfl⟩
     rw[←eM] at hown hlj
     have HM:=Lib.hid eM
     have Hown:=Lib.hid hown
     have Hbel:=Lib.hid hbel
     have HLJ:=Lib.hid hlj
     clear eM hlj
     clear hown hbel
     by_cases hj8:j<8
     ·have hz0':(0:Int)≤z:=by omega
      obtain⟨y,ey⟩:∃ y,y=8*(7-j):=⟨_,rfl⟩
      have hw1:IntKind.i64.wrap (8*z)=(y:Int):=by rw[IntWalk.i64_in _ (by omega)];omega
      have hw2:IntKind.u64.wrap (y:Int)=(y:Int):=by rw[IntWalk.u64_in _ (by omega)]
      have hy0:(0:Int)≤(y:Int):=by omega
      have hy1:(y:Int)≤64:=by omega
      obtain⟨x,ex⟩:∃ x,x=n*8/256^(7-j)%256:=⟨_,rfl⟩
      have hx:(N:Int)/2^y%256=(x:Int):=by
       rw[ex,ey,EN.out];exact shift_byte _ _
      have Hx:=Lib.hid ex
      have hz1:z-1=7-((j+1:Nat):Int):=by omega
      have Hz:=Lib.hid hz
      have Hz1:=Lib.hid hz1
      obtain⟨z',ez'⟩:∃ y,y=z-1:=⟨_,rfl⟩
      rw[←ez'] at Hz1
      have hzz:IntKind.i64.wrap (z-1)=z':=by rw[IntWalk.i64_in _ (by omega),ez']
      have Hz':=Lib.hid ez'
      have hzp:0≤z'+1:=by omega
      clear ex ey hz hz1 ez'
      go_wp2_with (at_builtin;refine wpList_append_own _ rfl _ _ 38 rfl B 5 i0 (.int .u8 0) 1 1 Tryz.underlying38 hi hz0 hz1 hz2 rfl (by decide) _ _ _ rfl (owns_below Hown.out (below_alloc (Below.refl _ _) _)) ⟨wr.heap.size,0,none⟩ 1 1 [.int .u8 (x:Int)] rfl rfl one_cell (fun u hu=>by simp at hu;subst hu;rfl) (maxLen_small (show M.length+1≤16777216 by rw[HLJ.out];have:=Hlen.out;have:=Hkg.out;omega)) (by have:=(show M.length+1≤16777216 by rw[HLJ.out];have:=Hlen.out;have:=Hkg.out;omega);omega) (by simp;omega) ?_)
      intro v' w4 hown4 hgrow4 _
      have Hb4:=Lib.hid (grown_below (Hbel.out.alloc hsz _) (owns_below Hown.out (below_alloc (Below.refl _ _) (.cells #[.int .u8 (x:Int)] 5))) (by simp;omega) hgrow4)
      have Ho4:=Lib.hid (OwnB.snoc (m:=[x]) hown4)
      have hsz4:B≤w4.heap.size:=by have:=hgrow4.size;simp at this;omega
      clear hown4 hgrow4
      obtain⟨g4,c4,ev4,_,_,_⟩:=Ho4.out.addr (k:=len+(j+1)) (by rw[List.length_append,HLJ.out];rfl) (by omega)
      subst ev4
      go_wp2_with fail
      go_roundw
      case rel=>exact⟨j+1,z',g4,c4,by omega,Hz1.out,rfl,rfl,by rw[len8_take n j hj8,←Hx.out,←List.append_assoc,←HM.out];exact Ho4.out,Hb4.out,hsz4⟩
      case measure=>have:=Hz'.out;simp[intOf];omega
     ·obtain rfl:j=8:=by omega
      have hzn:¬(0:Int)≤z:=by omega
      have epad:M=pad l:=by
       rw[HM.out,HL.out]
       unfold pad
       rw[List.take_of_length_le (by rw[len8_length];exact Nat.le_refl _),Hkg.out,En.out]
       simp
      rw[epad] at Hown HLJ
      obtain⟨g5,c5,ev5,hg5,hgl5,hc5⟩:=Hown.out.addr HLJ.out (by have:=Hlen.out;omega)
      cases ev5
      have Hc5:=Lib.hid (show (pad l).length≤_ by rw[HLJ.out];exact hc5)
      clear epad hc5
      go_wp2_with fail
      go_ret
      exact⟨g,c,(by show Ending.returned (.slice (some ⟨g,0,none⟩) (len+8) c)=Ending.returned (.slice (some ⟨g,0,none⟩) (pad l).length c);rw[HLJ.out]),Hown.out.bytes hgl5,Hc5.out,by rw[←EB.out];exact Hbel.out⟩
   ·have hm:((len%64:Nat):Int)≠56:=by omega
    obtain⟨md,emd⟩:∃ x,x=len%64:=⟨_,rfl⟩
    rw[←emd] at htm hm
    clear emd
    go_wp2_with (at_builtin;refine wpList_append_own _ rfl _ _ 38 rfl B 5 i0 (.int .u8 0) 1 1 Tryz.underlying38 hi hz0 hz1 hz2 rfl (by decide) _ _ _ rfl (owns_below Hown.out (below_alloc (Below.refl _ _) _)) ⟨wr.heap.size,0,none⟩ 1 1 [.int .u8 0] rfl rfl one_cell (fun u hu=>by simp at hu;subst hu;rfl) (maxLen_small (show L.length+1≤16777216 by rw[HLL.out];omega)) (by have:=(show L.length+1≤16777216 by rw[HLL.out];omega);omega) (by simp;omega) ?_)
    intro v' w4 hown4 hgrow4 _
    have Hb4:=Lib.hid (grown_below (Hbel.out.alloc hsz _) (owns_below Hown.out (below_alloc (Below.refl _ _) (.cells #[.int .u8 0] 5))) (by simp;omega) hgrow4)
    have Ho4:=Lib.hid (OwnB.snoc (m:=[0]) hown4)
    have hsz4:B≤w4.heap.size:=by have:=hgrow4.size;simp at this;omega
    clear hown4 hgrow4
    obtain⟨g4,c4,ev4,_,_,_⟩:=Ho4.out.addr (k:=len+1) (by rw[List.length_append,HLL.out];rfl) (by omega)
    subst ev4
    go_wp2_with fail
    go_roundw
    case rel=>exact⟨k+1,len+1,g4,c4,by omega,by omega,rfl,by rw[←zs_snoc,←List.append_assoc,←HL.out];exact Ho4.out,Hb4.out,hsz4⟩
    case measure=>simp;omega
end Go.Proofs.YtddmjddlbhdcpaaGreatDoor

namespace Go.Proofs.YtddmjddlbhdcpaaGreatDoor
open Go.RowKit Go.Hold Go.Sh
@[go_sem ↓] theorem fold_bld8 (ps:Array (Nat × Value)):Instr.buildSlice 179 8 ps=bldS 179 8 ps:=rfl
@[go_sem ↓] theorem fold_bld64 (ps:Array (Nat × Value)):Instr.buildSlice 179 64 ps=bldS 179 64 ps:=rfl
set_option maxRecDepth 100000 in
@[go_sem] theorem run_bld8 (w:World) (a b c d e f g h:Int):(bldS 179 8 #[(0,.int .u32 a),(1,.int .u32 b),(2,.int .u32 c),(3,.int .u32 d),(4,.int .u32 e),(5,.int .u32 f),(6,.int .u32 g),(7,.int .u32 h)]).run Tryz.prog w=.ok (.slice (some ⟨w.heap.size,0,none⟩) 8 8) (w.alloc (.cells (stA ⟨a,b,c,d,e,f,g,h⟩) 129)):=by
 obtain⟨ie,h1,h2,h3,_⟩:=info_parts info_u32
 refine run_buildSlice w _ _ 8 _ (stA ⟨a,b,c,d,e,f,g,h⟩) ie _ Tryz.underlying179 h1 h2 (by rw[h3];decide) (by rw[h3];decide) ?_
 rw[h3];kernel_rfl
set_option maxRecDepth 100000 in
@[go_sem] theorem run_bldK (w:World):(bldS 179 64 #[(0,.int .u32 1116352408),(1,.int .u32 1899447441),(2,.int .u32 3049323471),(3,.int .u32 3921009573),(4,.int .u32 961987163),(5,.int .u32 1508970993),(6,.int .u32 2453635748),(7,.int .u32 2870763221),(8,.int .u32 3624381080),(9,.int .u32 310598401),(10,.int .u32 607225278),(11,.int .u32 1426881987),(12,.int .u32 1925078388),(13,.int .u32 2162078206),(14,.int .u32 2614888103),(15,.int .u32 3248222580),(16,.int .u32 3835390401),(17,.int .u32 4022224774),(18,.int .u32 264347078),(19,.int .u32 604807628),(20,.int .u32 770255983),(21,.int .u32 1249150122),(22,.int .u32 1555081692),(23,.int .u32 1996064986),(24,.int .u32 2554220882),(25,.int .u32 2821834349),(26,.int .u32 2952996808),(27,.int .u32 3210313671),(28,.int .u32 3336571891),(29,.int .u32 3584528711),(30,.int .u32 113926993),(31,.int .u32 338241895),(32,.int .u32 666307205),(33,.int .u32 773529912),(34,.int .u32 1294757372),(35,.int .u32 1396182291),(36,.int .u32 1695183700),(37,.int .u32 1986661051),(38,.int .u32 2177026350),(39,.int .u32 2456956037),(40,.int .u32 2730485921),(41,.int .u32 2820302411),(42,.int .u32 3259730800),(43,.int .u32 3345764771),(44,.int .u32 3516065817),(45,.int .u32 3600352804),(46,.int .u32 4094571909),(47,.int .u32 275423344),(48,.int .u32 430227734),(49,.int .u32 506948616),(50,.int .u32 659060556),(51,.int .u32 883997877),(52,.int .u32 958139571),(53,.int .u32 1322822218),(54,.int .u32 1537002063),(55,.int .u32 1747873779),(56,.int .u32 1955562222),(57,.int .u32 2024104815),(58,.int .u32 2227730452),(59,.int .u32 2361852424),(60,.int .u32 2428436474),(61,.int .u32 2756734187),(62,.int .u32 3204031479),(63,.int .u32 3329325298)]).run Tryz.prog w=.ok (.slice (some ⟨w.heap.size,0,none⟩) 64 64) (w.alloc (.cells (wosA Ks) 129)):=by
 obtain⟨ie,h1,h2,h3,_⟩:=info_parts info_u32
 refine run_buildSlice w _ _ 64 _ (wosA Ks) ie _ Tryz.underlying179 h1 h2 (by rw[h3];decide) (by rw[h3];decide) ?_
 rw[h3];kernel_rfl
set_option maxHeartbeats 1000000 in
set_option maxRecDepth 100000 in
theorem constants_c (w:World):Calls Tryz.prog 147 #[] w fun e w'=>∃ g,e=.returned (.slice (some ⟨g,0,none⟩) 64 64)∧WordsAt w' g Ks∧Below w.heap.size w w':=by
 go_enter Tryz.func147,Tryz.ntmps147
 go_wp2_with fail
 go_ret
 exact⟨_,rfl,words_new w Ks _,below_alloc (Below.refl _ _) _⟩
set_option maxHeartbeats 1000000 in
set_option maxRecDepth 100000 in
theorem first_c (w:World):Calls Tryz.prog 119 #[] w fun e w'=>∃ g,e=.returned (.slice (some ⟨g,0,none⟩) 8 8)∧RowAt w' g (stA st0)∧w.heap.size≤g∧Below w.heap.size w w':=by
 go_enter Tryz.func119,Tryz.ntmps119
 go_wp2_with fail
 go_ret
 exact⟨_,rfl,RowAt.of (block_new w _),Nat.le_refl _,below_alloc (Below.refl _ _) _⟩
theorem pack4 (x0 x1 x2 x3:Nat) (h0:x0<256) (h1:x1<256) (h2:x2<256) (h3:x3<256) :
  o32 (o32 (o32 ((x0:Int)*16777216%4294967296) ((x1:Int)*65536%4294967296)) ((x2:Int)*256%4294967296)) (x3:Int)=(((((0*256+x0)*256+x1)*256+x2)*256+x3:Nat):Int):=by
 unfold o32
 rw[show (x0:Int)*16777216%4294967296=((x0*2^24:Nat):Int) by omega,show (x1:Int)*65536%4294967296=((x1*65536:Nat):Int) by omega,show (x2:Int)*256%4294967296=((x2*256:Nat):Int) by omega]
 rw[u32_or_nat _ _ (by omega) (by omega),or_add x0 (x1*65536) 24 (by omega),show x0*2^24+x1*65536=(x0*256+x1)*2^16 by omega]
 rw[u32_or_nat _ _ (by omega) (by omega),or_add _ (x2*256) 16 (by omega),show (x0*256+x1)*2^16+x2*256=(x0*65536+x1*256+x2)*2^8 by omega]
 rw[u32_or_nat _ _ (by omega) (by omega),or_add _ x3 8 (by omega)]
 omega
theorem pk4_eq (b:List Nat) (j:Nat):pk4 b j=(((((0*256+b.getD (4*j+0) 0)*256+b.getD (4*j+1) 0)*256+b.getD (4*j+2) 0)*256+b.getD (4*j+3) 0:Nat):Int):=rfl
end Go.Proofs.YtddmjddlbhdcpaaGreatDoor

namespace Go.Proofs.YtddmjddlbhdcpaaGreatDoor
open Go.RowKit Go.Hold Go.Sh
set_option maxHeartbeats 4000000 in
set_option maxRecDepth 100000 in
theorem schedule_c (b o cap:Nat) (C:List Nat) (w:World) (hC:C.length=64) (hCb:∀ i,C.getD i 0<256) (hB:BytesAt w b o C) :
  Calls Tryz.prog 146 #[.slice (some ⟨b,o,none⟩) 64 cap] w fun e w'=>∃ g c,e=.returned (.slice (some ⟨g,0,none⟩) 64 c)∧WordsAt w' g (sch C)∧Below w.heap.size w w':=by
 obtain⟨ie,hi,hz0,hz1,hz2⟩:=info_parts info_u32
 obtain⟨B,eB⟩:∃ B,B=w.heap.size:=⟨_,rfl⟩
 have HB:=Lib.hid hB
 have hbB:b<B:=by rw[eB];exact hB.1
 have EB:=Lib.hid eB
 have hBw:B≤w.heap.size:=by omega
 have hwB:w.heap.size≤B:=by omega
 clear hB eB
 go_enter Tryz.func146,Tryz.ntmps146
 go_wp2_with fail
 go_loopw [3,4] (fun v t wr=>∃ k:Nat,k≤16∧t=.int .i64 k∧OwnW wr B v ((List.range k).map (pk4 C))∧Below B w wr∧B≤wr.heap.size) (fun _ t _=>16-(intOf t).toNat)
 case atStart=>exact⟨0,by decide,rfl,World.ownsRow_nil _ _ _ _,Below.refl _ _,hBw⟩
 case round =>
  obtain⟨k,hk,rfl,hown,hbel,hsz⟩:=hrel
  have hkk:(0:Int)≤(k:Int):=by omega
  have hlen:((List.range k).map (pk4 C)).length=k:=by simp
  by_cases hk16:k<16
  ·have hk1:(k:Int)<16:=by omega
   obtain⟨L,eL⟩:∃ L,L=(List.range k).map (pk4 C):=⟨_,rfl⟩
   rw[←eL] at hown hlen
   have HL:=Lib.hid eL
   have Hlen:=Lib.hid hlen
   have Hown:=Lib.hid hown
   have Hbel:=Lib.hid hbel
   have hbl:b<wr.heap.size:=by omega
   have hpk:=pk4_eq C k
   obtain⟨i0,e0⟩:∃ y,y=4*k+0:=⟨_,rfl⟩
   have hc0:wr.cell? ⟨b,o+i0,none⟩=some (.int .u8 ((C.getD i0 0:Nat):Int)):=by rw[hbel.cell hbB];exact HB.out.2 i0 (by omega)
   have hb0:=hCb i0
   rw[←e0] at hpk
   generalize C.getD i0 0=x0 at hc0 hb0 hpk
   have ha0:(0:Int)≤(i0:Int):=by omega
   have hd0:(i0:Int)<64:=by omega
   have hm0:IntKind.u32.wrap (x0:Int)=(x0:Int):=by rw[IntWalk.u32_in _ (by omega)]
   obtain⟨i1,e1⟩:∃ y,y=4*k+1:=⟨_,rfl⟩
   have hc1:wr.cell? ⟨b,o+i1,none⟩=some (.int .u8 ((C.getD i1 0:Nat):Int)):=by rw[hbel.cell hbB];exact HB.out.2 i1 (by omega)
   have hb1:=hCb i1
   rw[←e1] at hpk
   generalize C.getD i1 0=x1 at hc1 hb1 hpk
   have ha1:(0:Int)≤(i1:Int):=by omega
   have hd1:(i1:Int)<64:=by omega
   have hm1:IntKind.u32.wrap (x1:Int)=(x1:Int):=by rw[IntWalk.u32_in _ (by omega)]
   obtain⟨i2,e2⟩:∃ y,y=4*k+2:=⟨_,rfl⟩
   have hc2:wr.cell? ⟨b,o+i2,none⟩=some (.int .u8 ((C.getD i2 0:Nat):Int)):=by rw[hbel.cell hbB];exact HB.out.2 i2 (by omega)
   have hb2:=hCb i2
   rw[←e2] at hpk
   generalize C.getD i2 0=x2 at hc2 hb2 hpk
   have ha2:(0:Int)≤(i2:Int):=by omega
   have hd2:(i2:Int)<64:=by omega
   have hm2:IntKind.u32.wrap (x2:Int)=(x2:Int):=by rw[IntWalk.u32_in _ (by omega)]
   obtain⟨i3,e3⟩:∃ y,y=4*k+3:=⟨_,rfl⟩
   have hc3:wr.cell? ⟨b,o+i3,none⟩=some (.int .u8 ((C.getD i3 0:Nat):Int)):=by rw[hbel.cell hbB];exact HB.out.2 i3 (by omega)
   have hb3:=hCb i3
   rw[←e3] at hpk
   generalize C.getD i3 0=x3 at hc3 hb3 hpk
   have ha3:(0:Int)≤(i3:Int):=by omega
   have hd3:(i3:Int)<64:=by omega
   have hm3:IntKind.u32.wrap (x3:Int)=(x3:Int):=by rw[IntWalk.u32_in _ (by omega)]
   have hw0:IntKind.i64.wrap (4*(k:Int))=(i0:Int):=by rw[IntWalk.i64_in _ (by omega)];omega
   have hw1:IntKind.i64.wrap ((i0:Int)+1)=(i1:Int):=by rw[IntWalk.i64_in _ (by omega)];omega
   have hw2:IntKind.i64.wrap ((i0:Int)+2)=(i2:Int):=by rw[IntWalk.i64_in _ (by omega)];omega
   have hw3:IntKind.i64.wrap ((i0:Int)+3)=(i3:Int):=by rw[IntWalk.i64_in _ (by omega)];omega
   rw[←pack4 x0 x1 x2 x3 hb0 hb1 hb2 hb3] at hpk
   have Hpk:=Lib.hid hpk
   obtain⟨y0,ey0⟩:∃ y,y=(x0:Int)*16777216%4294967296:=⟨_,rfl⟩
   have hy0:IntKind.u32.wrap ((x0:Int)*16777216)=y0:=by rw[IntKind.wrap_u32,ey0]
   rw[←ey0] at Hpk
   clear ey0
   obtain⟨y1,ey1⟩:∃ y,y=(x1:Int)*65536%4294967296:=⟨_,rfl⟩
   have hy1:IntKind.u32.wrap ((x1:Int)*65536)=y1:=by rw[IntKind.wrap_u32,ey1]
   rw[←ey1] at Hpk
   clear ey1
   obtain⟨y2,ey2⟩:∃ y,y=(x2:Int)*256%4294967296:=⟨_,rfl⟩
   have hy2:IntKind.u32.wrap ((x2:Int)*256)=y2:=by rw[IntKind.wrap_u32,ey2]
   rw[←ey2] at Hpk
   clear ey2
   generalize ev:o32 (o32 (o32 y0 y1) y2) (x3:Int)=x at Hpk
   clear e0 e1 e2 e3 hpk eL hlen hown hbel hb0 hb1 hb2 hb3
   go_wp2_with fail
   refine wp_region_pick wr [0,1,2,3,4,5,6,7,8,9,10,11,12,13,14,15,16,17,18,19,20,21,22,23,24,25,26,27,28,29,30,31,32,33] [true,false,false,false,false,false,false,false,false,false,false,false,false,false,false,false,false,false,false,false,false,false,false,false,false,false,false,false,false,false,false,false,false,false] [] [] 34 (by kernel_rfl) rfl (by kernel_rfl) (by intro c a d v w h;cases d<;>exact h) ((Below.refl _ _).drew) ?_
   simp only[pick,List.getElem?_cons_succ,List.getElem?_cons_zero,List.drop_succ_cons,List.drop_zero]
   refine wpHoldF_late (wanted_none rfl) (fun w=>by go_simp;rfl) ?_
   iterate 33 (refine wpHoldF_val (wanted_none rfl) (by intro K o d hK;go_simp;exact hK _ (Below.refl _ _)) ?_)
   refine wpHoldF_nil ?_
   intro w2 hb2 _
   have hsz2:B≤w2.heap.size:=by have:=hb2.size;omega
   have HO2:=Lib.hid (Hown.out.below hb2)
   have HB2:=Lib.hid (Hbel.out.trans (hb2.mono hsz))
   clear hb2
   go_wp2_with (at_builtin;refine wpList_append_own _ rfl _ _ 179 rfl B 129 ie (.int .u32 0) 1 4 Tryz.underlying179 hi hz0 hz1 hz2 rfl (by decide) _ _ _ rfl (owns_below HO2.out (below_alloc (Below.refl _ _) _)) ⟨w2.heap.size,0,none⟩ 1 1 [.int .u32 x] rfl rfl one_cell (fun u hu=>by simp at hu;subst hu;rfl) (maxLen_small (show L.length+1≤16777216 by rw[Hlen.out];omega)) (by have:=(show L.length+1≤16777216 by rw[Hlen.out];omega);omega) (by simp;omega) ?_)
   intro v' w4 hown4 hgrow4 _
   have Hb4:=Lib.hid (grown_below (HB2.out.alloc hsz2 _) (owns_below HO2.out (below_alloc (Below.refl _ _) (.cells #[.int .u32 x] 129))) (by simp;omega) hgrow4)
   have Ho4:=Lib.hid (OwnW.snoc hown4)
   have hsz4:B≤w4.heap.size:=by have:=hgrow4.size;simp at this;omega
   clear hown4 hgrow4
   go_wp2_with fail
   go_roundw
   case rel =>
    first
    | exact⟨k+1,by omega,by go_num,by rw[List.range_succ,List.map_append,←HL.out];show OwnW _ _ _ (L++[pk4 C k]);rw[Hpk.out];exact Ho4.out,Hb4.out,hsz4⟩
    | exact⟨_,_,_,_,_,_,_,_,_,_,_,_,_,_,_,_,_,_,_,_,_,_,_,_,_,_,_,_,_,_,_,_,_,_,_,_,_,_,⟨k+1,by omega,by go_num,by rw[List.range_succ,List.map_append,←HL.out];show OwnW _ _ _ (L++[pk4 C k]);rw[Hpk.out];exact Ho4.out,Hb4.out,hsz4⟩,rfl⟩
   case measure=>simp[intOf];omega
  ·obtain rfl:k=16:=by omega
   obtain⟨g,c,ev,hg,hgl,hc⟩:=OwnW.addr hown hlen (by decide)
   subst ev
   have Hown:=Lib.hid (show OwnW wr B (.slice (some ⟨g,0,none⟩) 16 c) (ws C (16-16)) from hown)
   have Hbel:=Lib.hid hbel
   clear hown hbel hlen
   go_wp2_with fail
   obtain⟨W2,eW2⟩:∃ x,x=wr:=⟨_,rfl⟩
   rw[←eW2] at Hown Hbel hsz hgl ⊢
   clear eW2
   go_loopw [3,5] (fun v t wr=>∃ k g c:Nat,16≤k∧k≤64∧t=.int .i64 k∧v=.slice (some ⟨g,0,none⟩) k c∧OwnW wr B v (ws C (k-16))∧g<wr.heap.size∧Below B w wr∧B≤wr.heap.size) (fun _ t _=>64-(intOf t).toNat)
   case atStart=>exact⟨16,g,c,by decide,by decide,rfl,rfl,Hown.out,hgl,Hbel.out,hsz⟩
   case round =>
    obtain⟨k,g,c,hk0,hk,rfl,rfl,hown,hgl,hbel,hsz⟩:=hrel
    have hkk:(0:Int)≤(k:Int):=by omega
    by_cases hk64:k<64
    ·have hk1:(k:Int)<64:=by omega
     have hwd:=hown.words hgl
     have hlen:(ws C (k-16)).length=k:=by rw[ws_length];omega
     have Hn:=Lib.hid (nxt_ws C k hk0)
     have Hws:=Lib.hid (show ws C (k+1-16)=ws C (k-16)++[nxt (ws C (k-16))] by rw[show k+1-16=(k-16)+1 by omega];rfl)
     have hc2:=hwd.2 (k-2) (by omega)
     generalize (ws C (k-16)).getD (k-2) 0=x2 at hc2 Hn
     have hc7:=hwd.2 (k-7) (by omega)
     generalize (ws C (k-16)).getD (k-7) 0=x7 at hc7 Hn
     have hc15:=hwd.2 (k-15) (by omega)
     generalize (ws C (k-16)).getD (k-15) 0=x15 at hc15 Hn
     have hc16:=hwd.2 (k-16) (by omega)
     generalize (ws C (k-16)).getD (k-16) 0=x16 at hc16 Hn
     obtain⟨k2,e2⟩:∃ y,y=k-2:=⟨_,rfl⟩
     rw[←e2] at hc2
     have hw2:IntKind.i64.wrap ((k:Int)-2)=(k2:Int):=by rw[IntWalk.i64_in _ (by omega)];omega
     have ha2:(0:Int)≤(k2:Int):=by omega
     have hd2:(k2:Int)<(k:Int):=by omega
     obtain⟨k7,e7⟩:∃ y,y=k-7:=⟨_,rfl⟩
     rw[←e7] at hc7
     have hw7:IntKind.i64.wrap ((k:Int)-7)=(k7:Int):=by rw[IntWalk.i64_in _ (by omega)];omega
     have ha7:(0:Int)≤(k7:Int):=by omega
     have hd7:(k7:Int)<(k:Int):=by omega
     obtain⟨k15,e15⟩:∃ y,y=k-15:=⟨_,rfl⟩
     rw[←e15] at hc15
     have hw15:IntKind.i64.wrap ((k:Int)-15)=(k15:Int):=by rw[IntWalk.i64_in _ (by omega)];omega
     have ha15:(0:Int)≤(k15:Int):=by omega
     have hd15:(k15:Int)<(k:Int):=by omega
     obtain⟨k16,e16⟩:∃ y,y=k-16:=⟨_,rfl⟩
     rw[←e16] at hc16
     have hw16:IntKind.i64.wrap ((k:Int)-16)=(k16:Int):=by rw[IntWalk.i64_in _ (by omega)];omega
     have ha16:(0:Int)≤(k16:Int):=by omega
     have hd16:(k16:Int)<(k:Int):=by omega
     obtain⟨y3,ey3⟩:∃ y,y=shrw x15 3:=⟨_,rfl⟩
     have hs3:x15/8=y3:=by rw[ey3];unfold shrw;rfl
     obtain⟨y10,ey10⟩:∃ y,y=shrw x2 10:=⟨_,rfl⟩
     have hs10:x2/1024=y10:=by rw[ey10];unfold shrw;rfl
     obtain⟨L,eL⟩:∃ L,L=ws C (k-16):=⟨_,rfl⟩
     rw[←eL] at hown hlen Hn Hws
     have Hs0:=Lib.hid (show s0 x15=x32 (x32 (rotr x15 7) (rotr x15 18)) y3 by rw[ey3];rfl)
     have Hs1:=Lib.hid (show s1 x2=x32 (x32 (rotr x2 17) (rotr x2 19)) y10 by rw[ey10];rfl)
     have Hlen:=Lib.hid hlen
     have Hown:=Lib.hid hown
     have Hbel:=Lib.hid hbel
     clear e2 e7 e15 e16 ey3 ey10 eL hlen hown hbel hwd
     go_wp2_with fail
     refine wp_region_fast (fun w'=>∃ o d,w'=wr.plus o d) (by kernel_rfl) (by kernel_rfl) ⟨#[],_,rfl⟩ ?_
     iterate 12 (refine wpHold_val ⟨_,#[],0,rfl⟩ (wanted_none rfl) (by rintro K _ ⟨o,d,rfl⟩ hK;go_simp;exact hK _ ⟨o,d,rfl⟩) ?_)
     refine wpHold_nil ?_
     rintro _ ⟨o5,n5,rfl⟩
     have hbw:=below_more (Below.refl wr.heap.size wr) o5 n5
     replace hc2:(wr.plus o5 n5).cell? ⟨g,k2,none⟩=some (.int .u32 x2):=by rw[hbw.cell hgl];exact hc2
     replace hc7:(wr.plus o5 n5).cell? ⟨g,k7,none⟩=some (.int .u32 x7):=by rw[hbw.cell hgl];exact hc7
     replace hc15:(wr.plus o5 n5).cell? ⟨g,k15,none⟩=some (.int .u32 x15):=by rw[hbw.cell hgl];exact hc15
     replace hc16:(wr.plus o5 n5).cell? ⟨g,k16,none⟩=some (.int .u32 x16):=by rw[hbw.cell hgl];exact hc16
     have HO5:=Lib.hid (Hown.out.below hbw)
     have HB5:=Lib.hid (Hbel.out.trans (hbw.mono hsz))
     have hgl5:g<(wr.plus o5 n5).heap.size:=by have:=hbw.size;omega
     have hsz5:B≤(wr.plus o5 n5).heap.size:=by have:=hbw.size;omega
     clear hbw Hown Hbel
     generalize wr.plus o5 n5=W5 at *
     go_wp2_with fail
     refine(turn_7 _ _).mono ?_
     rintro e w' ⟨rfl,hwE⟩
     rw[hwE]
     clear hwE w'
     go_wp2_with fail
     refine(turn_18 _ _).mono ?_
     rintro e w' ⟨rfl,hwE⟩
     rw[hwE]
     clear hwE w'
     go_wp2_with fail
     generalize ez0:x32 (x32 (rotr x15 7) (rotr x15 18)) y3=z0
     have Hz0:=Lib.hid ez0
     clear ez0
     refine(turn_17 _ _).mono ?_
     rintro e w' ⟨rfl,hwE⟩
     rw[hwE]
     clear hwE w'
     go_wp2_with fail
     refine(turn_19 _ _).mono ?_
     rintro e w' ⟨rfl,hwE⟩
     rw[hwE]
     clear hwE w'
     go_wp2_with fail
     generalize ez1:x32 (x32 (rotr x2 17) (rotr x2 19)) y10=z1
     have Hz1:=Lib.hid ez1
     clear ez1
     refine wp_region_pick W5 [0,1,2,3,4,5,6,7,8,9,10,11,12,13,14,15] [true,false,false,false,false,false,false,false,false,false,false,false,false,false,false,false] [] [] 16 (by kernel_rfl) rfl (by kernel_rfl) (by intro c a d v w h;cases d<;>exact h) ((Below.refl _ _).drew) ?_
     simp only[pick,List.getElem?_cons_succ,List.getElem?_cons_zero,List.drop_succ_cons,List.drop_zero]
     refine wpHoldF_late (wanted_none rfl) (fun w=>by go_simp;rfl) ?_
     iterate 15 (refine wpHoldF_val (wanted_none rfl) (by intro K o d hK;go_simp;exact hK _ (Below.refl _ _)) ?_)
     refine wpHoldF_nil ?_
     intro w2 hb2 _
     have hsz2:B≤w2.heap.size:=by have:=hb2.size;omega
     have HO2:=Lib.hid (HO5.out.below hb2)
     have HB2:=Lib.hid (HB5.out.trans (hb2.mono hsz5))
     clear hb2
     generalize ex:add32 (add32 (add32 z1 x7) z0) x16=x
     have Hx:=Lib.hid ex
     clear ex
     go_wp2_with (at_builtin;refine wpList_append_own _ rfl _ _ 179 rfl B 129 ie (.int .u32 0) 1 4 Tryz.underlying179 hi hz0 hz1 hz2 rfl (by decide) _ _ _ rfl (owns_below HO2.out (below_alloc (Below.refl _ _) _)) ⟨w2.heap.size,0,none⟩ 1 1 [.int .u32 x] rfl rfl one_cell (fun u hu=>by simp at hu;subst hu;rfl) (maxLen_small (show L.length+1≤16777216 by rw[Hlen.out];omega)) (by have:=(show L.length+1≤16777216 by rw[Hlen.out];omega);omega) (by simp;omega) ?_)
     intro v' w4 hown4 hgrow4 _
     have Hb4:=Lib.hid (grown_below (HB2.out.alloc hsz2 _) (owns_below HO2.out (below_alloc (Below.refl _ _) (.cells #[.int .u32 x] 129))) (by simp;omega) hgrow4)
     have Ho4:=Lib.hid (OwnW.snoc hown4)
     have hsz4:B≤w4.heap.size:=by have:=hgrow4.size;simp at this;omega
     clear hown4 hgrow4
     obtain⟨g4,c4,ev4,_,hgl4,_⟩:=Ho4.out.addr (k:=k+1) (by rw[List.length_append,Hlen.out];rfl) (by omega)
     subst ev4
     have Hrel:=Lib.hid (show OwnW w4 B (.slice (some ⟨g4,0,none⟩) (k+1) c4) (ws C (k+1-16)) by rw[Hws.out,Hn.out,Hs0.out,Hs1.out,Hz0.out,Hz1.out,Hx.out];exact Ho4.out)
     go_wp2_with fail
     go_roundw
     case rel =>
      first
      | exact⟨k+1,g4,c4,by omega,by omega,by go_num,rfl,Hrel.out,hgl4,Hb4.out,hsz4⟩
      | exact⟨_,_,_,_,_,_,_,_,_,_,_,_,_,_,_,_,_,_,_,_,_,_,_,_,_,_,_,_,_,_,_,_,_,_,_,_,_,_,_,_,_,_,_,_,_,_,_,_,_,_,_,_,_,_,⟨k+1,g4,c4,by omega,by omega,by go_num,rfl,Hrel.out,hgl4,Hb4.out,hsz4⟩,rfl⟩
     case measure=>simp[intOf];omega
    ·obtain rfl:k=64:=by omega
     have Hw:=Lib.hid (hown.words hgl)
     have Hbel:=Lib.hid hbel
     clear hown hbel
     go_wp2_with fail
     go_ret
     exact⟨_,_,rfl,Hw.out,by rw[←EB.out];exact Hbel.out⟩
end Go.Proofs.YtddmjddlbhdcpaaGreatDoor
