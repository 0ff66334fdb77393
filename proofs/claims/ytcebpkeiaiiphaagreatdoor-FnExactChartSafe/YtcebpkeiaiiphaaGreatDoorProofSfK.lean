/-
  Proved: laws.FnExactChartSafe, at every two lists of parts.
  Conditions: the row's and the card's.
-/
import Derived.Test.YtcebpkeiaiiphaaGreatDoorRC48
import Derived.Test.YtcebpkeiaiiphaaGreatDoorRows
import Derived.Test.YtcebpkeiaiiphaaGreatDoorCards
import Derived.Test.YtcebpkeiaiiphaaGreatDoorTie
import Derived.LaidMore
import Derived.OpenShut
import Derived.OpenVars
import Derived.Stop.LaidErr
namespace Go.Proofs.YtcebpkeiaiiphaaGreatDoor
open Go.ChangeShapes Go.WideShapes Go.ChangeAt Go.RowKit
theorem Tryz.own:ownKnob Tryz.prog.godebug=none:=by kernel_rfl
theorem Tryz.laidOut:laidOutB Tryz.prog=true:=by kernel_rfl
theorem aOJ:Tryz.prog.globalNamed "loop.example/portolan/impl.errChartBadPart" =some 1:=by kernel_rfl
theorem aSL:(Tryz.prog.globals[1]?).map (·.type)=some 101:=by kernel_rfl
theorem aTV:Tryz.prog.globalNamed "loop.example/portolan/impl.errChartTwice" =some 2:=by kernel_rfl
theorem aVF:(Tryz.prog.globals[2]?).map (·.type)=some 101:=by kernel_rfl
theorem aR1:Tryz.prog.globalNamed "loop.example/portolan/impl.errChartUnlike" =some 4:=by kernel_rfl
theorem aUC:(Tryz.prog.globals[4]?).map (·.type)=some 101:=by kernel_rfl
theorem gKey:Tryz.prog.globalNamed "loop.example/portolan/impl.errChartKey" =some 3:=by kernel_rfl
theorem tKey:(Tryz.prog.globals[3]?).map (·.type)=some 101:=by kernel_rfl
theorem aQZ:Tryz.prog.globalNamed "loop.example/portolan/impl.errChartShared" =some 5:=by kernel_rfl
theorem aU4:(Tryz.prog.globals[5]?).map (·.type)=some 101:=by kernel_rfl
theorem gFar:Tryz.prog.globalNamed "loop.example/portolan/impl.errChartFar" =some 6:=by kernel_rfl
theorem tFar:(Tryz.prog.globals[6]?).map (·.type)=some 101:=by kernel_rfl
theorem aTX:Tryz.prog.globalNamed "loop.example/portolan/impl.errChartNeeds" =some 7:=by kernel_rfl
theorem aVI:(Tryz.prog.globals[7]?).map (·.type)=some 101:=by kernel_rfl
theorem aVJ:Tryz.prog.globalNamed "loop.example/portolan/impl.errChartMany" =some 0:=by kernel_rfl
theorem aVN:(Tryz.prog.globals[0]?).map (·.type)=some 101:=by kernel_rfl
theorem aR5: "*" ++ "errors.errorString" = "*errors.errorString" :=by decide
theorem aHY(u:TypeId)(h:Tryz.prog.typeName? 3 u=some "*errors.errorString"):u=267:=
 typeName_ptr_named (nm:= "errors.errorString") (by rw[aR5];kernel_rfl) (by kernel_rfl) (by decide) u (by rw[aR5];exact h)
theorem aE3:Tryz.prog.cellsOf 287=1:=by kernel_rfl
theorem aU6:varsRowed Tryz.prog Rows.fnExactChartSafeSpec.vars=true:=by kernel_rfl
theorem aS6:Tryz.prog.bytesOf 43=40:=by kernel_rfl
section
variable {H:Type} {enc:TypeId× Value→H} {w:World}
theorem aKL{fuel:Nat}{c:Value}{x:DataW H× List MemPlace}(h:DataW.trod enc Tryz.prog w 0 (fun _=>true) true fuel 22 [c]=some x)(hl:aIA 22 x.1):
  ∃(ps:List Pt) (ra:Option Addr) (rc:Nat),c=.slice ra ps.length rc∧aAP w (·<w.heap.size) ps ra:=by
 obtain⟨ps,ra,rc,C,e,-,hb,hA,hr⟩:=aIT Pt.zero (fun p cs=>∃(c0 c1:Value),cs=[c0,c1]∧PRep w (·<w.heap.size) p (.agg #[c0,c1])) 22 43 2 40 Tryz.underlying22 Tryz.cells43 aS6 (by omega) h hl
  (fun m cs y h hl=>by
   obtain⟨p,c0,c1,e,hR⟩:=aS4 m cs y h hl;exact⟨by rw[e];rfl,p,c0,c1,e,hR⟩)
 refine⟨ps,ra,rc,e,hb,C,hA,fun i hi=>?_⟩;obtain⟨d0,d1,hd,hR⟩:=hr i hi;simp only[List.range,List.range.loop,List.map_cons,List.map_nil,List.cons.injEq,and_true] at hd;obtain⟨rfl,rfl⟩:=hd;exact hR
end
theorem aQJ{H:Type}{enc:TypeId× Value→H}{P:Program}{w:World}{sp:Nat→Bool}{n1 n2 n3 n4 n5 n6 n7 n8:String}{gs:List (DataW H)}{ps:List MemPlace}(h:DataW.TrodVars enc P w sp [n1,n2,n3,n4,n5,n6,n7,n8] gs ps):∃g1 g2 g3 g4 g5 g6 g7 g8,gs=[g1,g2,g3,g4,g5,g6,g7,g8]:=by
 iterate 8 (rcases gs with _| ⟨_,gs⟩;exact h.elim;obtain⟨_,_,_,_,_,_,_,_,_,_,h,_⟩:=h)
 rcases gs with _| ⟨_,gs⟩
 ·exact⟨_,_,_,_,_,_,_,_,rfl⟩
 ·exact h.elim
theorem aTA(os:Os)(args:Array Value):laidMetH Tryz.prog Rows.fnExactChartSafeRow.laid ((World.doorLaid Tryz.prog 400 os).forCall (fun _ _=>0) ⟨#[],args,[]⟩).memory:=
 laidMetH_of_parts3 (fuel:=8) (laidMet_of_run' 8 (by kernel_rfl) (by kernel_rfl)) (by kernel_rfl) (by kernel_rfl)
theorem aME{W:World}(h:laidMetH Tryz.prog Rows.fnExactChartSafeRow.laid W):GErr W:=by
 rw[MakeChecks.laidMetH_plain _ _ _ (by kernel_rfl)] at h
 have h0:=h;obtain⟨a0,s0,v0,-⟩:=laid_sentinel h0 aOJ aSL Tryz.underlying101 aHY Tryz.underlying267 Tryz.underlying287 rfl rfl Tryz.underlying9 aE3 Tryz.cells9;have h1:=laidMet.tail h0;obtain⟨a1,s1,v1,-⟩:=laid_sentinel h1 aTV aVF Tryz.underlying101 aHY Tryz.underlying267 Tryz.underlying287 rfl rfl Tryz.underlying9 aE3 Tryz.cells9;have h2:=laidMet.tail h1;obtain⟨a2,s2,v2,-⟩:=laid_sentinel h2 aR1 aUC Tryz.underlying101 aHY Tryz.underlying267 Tryz.underlying287 rfl rfl Tryz.underlying9 aE3 Tryz.cells9;have h3:=laidMet.tail h2;obtain⟨a3,s3,v3,-⟩:=laid_sentinel h3 gKey tKey Tryz.underlying101 aHY Tryz.underlying267 Tryz.underlying287 rfl rfl Tryz.underlying9 aE3 Tryz.cells9;have h4:=laidMet.tail h3;obtain⟨a4,s4,v4,-⟩:=laid_sentinel h4 aQZ aU4 Tryz.underlying101 aHY Tryz.underlying267 Tryz.underlying287 rfl rfl Tryz.underlying9 aE3 Tryz.cells9;have h5:=laidMet.tail h4;obtain⟨a5,s5,v5,-⟩:=laid_sentinel h5 gFar tFar Tryz.underlying101 aHY Tryz.underlying267 Tryz.underlying287 rfl rfl Tryz.underlying9 aE3 Tryz.cells9;have h6:=laidMet.tail h5;obtain⟨a6,s6,v6,-⟩:=laid_sentinel h6 aTX aVI Tryz.underlying101 aHY Tryz.underlying267 Tryz.underlying287 rfl rfl Tryz.underlying9 aE3 Tryz.cells9;have h7:=laidMet.tail h6;obtain⟨a7,s7,v7,-⟩:=laid_sentinel h7 aVJ aVN Tryz.underlying101 aHY Tryz.underlying267 Tryz.underlying287 rfl rfl Tryz.underlying9 aE3 Tryz.cells9;intro g hg;have hg':g=0∨g=1∨g=2∨g=3∨g=4∨g=5∨g=6∨g=7:=by omega
 rcases hg' with rfl| rfl| rfl| rfl| rfl| rfl| rfl| rfl
 ·exact⟨_,_,by simpa using World.var?_cell aVJ v7 0⟩
 ·exact⟨_,_,by simpa using World.var?_cell aOJ v0 0⟩
 ·exact⟨_,_,by simpa using World.var?_cell aTV v1 0⟩
 ·exact⟨_,_,by simpa using World.var?_cell gKey v3 0⟩
 ·exact⟨_,_,by simpa using World.var?_cell aR1 v2 0⟩
 ·exact⟨_,_,by simpa using World.var?_cell aQZ v4 0⟩
 ·exact⟨_,_,by simpa using World.var?_cell gFar v5 0⟩
 ·exact⟨_,_,by simpa using World.var?_cell aTX v6 0⟩
set_option maxRecDepth 100000 in
theorem aV2(os:Os)(started:os.Started)(H:Type)(enc:TypeId× Value→H):
  ReturnsInHanded {} Tryz.checked os 6 .any (fun w args=>(Rows.fnExactChartSafeSpec.pre enc Tryz.prog Tryz.f6 [] false w args∧laidMetH Tryz.prog Rows.fnExactChartSafeRow.laid w)∧sizedMet enc Tryz.prog Tryz.f6 (OpenSpec.ofChange Rows.fnExactChartSafeSpec) false w args)
   (Rows.fnExactChartSafeSpec.post enc Tryz.prog Tryz.f6 false true false false):=by
 refine returnsInHanded_of_change_and (C:=Tryz.checked) (X:=fun w _=>laidMetH Tryz.prog Rows.fnExactChartSafeRow.laid w) (fun _ _ _ hh h=>h.of_heap hh) Tryz.own started (by kernel_rfl) Tryz.func6
  (ChangeSpec.witness_shaped (enc:=enc) (C:=Tryz.checked) (os:=os) (X:=fun w _=>laidMetH Tryz.prog Rows.fnExactChartSafeRow.laid w) false (World.doorLaid Tryz.prog 400 os) #[.slice none 0 0,.slice none 0 0] 8 rfl (World.shaped_of_RefB (by kernel_rfl) (by kernel_rfl)) (by kernel_rfl) (by kernel_rfl) (by kernel_rfl) (aTA os _)) ?_
 intro W base args ds gs before hval0 hW hcnd hsz0 hL _;have hsz:(DataW.weightsEach Tryz.prog (Tryz.f6.params.toList++Rows.fnExactChartSafeSpec.plain.varTypes Tryz.prog) (ds++gs)).all (·≤reachBytes)=true:=hsz0;clear hsz0;have hval:∀(j:Nat) t v,Tryz.f6.params[j]?=some t→args[j]?=some v→Value.okWide Tryz.prog W .any base t v:=hval0;have hW':=hW;obtain⟨p,q,hA0,hV,rfl,hfz,hnd⟩:=hW;have hA:DataW.TrodAll enc Tryz.prog W 0 (fun _=>true) true Tryz.f6.params.toList args.toList ds p:=hA0;rw[Tryz.params6] at hA hval hsz;obtain⟨v0,v1,d0,d1,p0,p1,rfl,rfl,rfl,h0,h1⟩:=trodAll_two hA;have k0:=h0;have k1:=h1;have lt0:∀x∈ p0,x.block<W.heap.size:=by obtain⟨m,hm⟩:=k0;exact DataW.trod_lt m _ _ _ hm
 have lt1:∀x∈ p1,x.block<W.heap.size:=by obtain⟨m,hm⟩:=k1;exact DataW.trod_lt m _ _ _ hm
 obtain⟨ra0,rl0,rc0,rfl⟩:=okWide_slice Tryz.underlying22 (hval 0 22 v0 rfl rfl);obtain⟨ra1,rl1,rc1,rfl⟩:=okWide_slice Tryz.underlying22 (hval 1 22 v1 rfl rfl);obtain⟨fuel0,hf0⟩:=h0;obtain⟨fuel1,hf1⟩:=h1;have hl0:aIA 22 d0:=fun n hn=>by
  have h1:=DataW.weights_mem_each (P:=Tryz.prog) (ts:=[22,22]++Rows.fnExactChartSafeSpec.plain.varTypes Tryz.prog) (ds:=[d0,d1]++gs) (j:=0) rfl rfl n hn;have h2:=List.all_eq_true.1 hsz n h1;simpa using h2
 have hl1:aIA 22 d1:=fun n hn=>by
  have h1:=DataW.weights_mem_each (P:=Tryz.prog) (ts:=[22,22]++Rows.fnExactChartSafeSpec.plain.varTypes Tryz.prog) (ds:=[d0,d1]++gs) (j:=1) rfl rfl n hn;have h2:=List.all_eq_true.1 hsz n h1;simpa using h2
 have hf0':DataW.trod enc Tryz.prog W 0 (fun _=>true) true fuel0 22 [.slice ra0 rl0 rc0]=some (d0,p0):=by simpa[Value.cells] using hf0
 have hf1':DataW.trod enc Tryz.prog W 0 (fun _=>true) true fuel1 22 [.slice ra1 rl1 rc1]=some (d1,p1):=by simpa[Value.cells] using hf1
 obtain⟨ps,ra,rc,hc,hR⟩:=aKL hf0' hl0;simp only[Value.slice.injEq] at hc;obtain⟨rfl,rfl,rfl⟩:=hc;obtain⟨qs,rb,rd,hd,hQ⟩:=aKL hf1' hl1;simp only[Value.slice.injEq] at hd;obtain⟨rfl,rfl,rfl⟩:=hd;have hG:=aME hL;obtain⟨g1,g2,g3,g4,g5,g6,g7,g8,rfl⟩:∃g1 g2 g3 g4 g5 g6 g7 g8,gs=[g1,g2,g3,g4,g5,g6,g7,g8]:=aQJ hV;clear hA0 hval0;refine(aHB ps qs W _ _ _ _ hR hQ hG).mono fun e W' ⟨he,bel⟩=>?_;subst he;have hk0:=Below.trod Tryz.laidOut (by kernel_rfl) (of_decide_eq_true (by kernel_rfl)) k0 bel lt0
 have hk1:=Below.trod Tryz.laidOut (by kernel_rfl) (of_decide_eq_true (by kernel_rfl)) k1 bel lt1
 have hkv:=Below.trodVars Tryz.laidOut bel aU6 hV;exact⟨_,rfl,_,_,_,[],_,_,hW',trodAll_mk1 (shut_bool Tryz.underlying4 _),trodAll_mk2 hk0 hk1,hkv,bel.frame _,fun h=>by cases h⟩
theorem aFZ:Rows.FnExactChartSafeSaid:=
 OpenClaim.holds_of_wide 6 Tryz.f6 rfl rfl rfl rfl rfl rfl rfl ⟨rfl,rfl,rfl,rfl,rfl⟩ rfl rfl rfl rfl rfl (by kernel_rfl) Tryz.func6 (by kernel_rfl)
  (of_decide_eq_true (by kernel_rfl)) (by unfold Func.isWrapper;first| (rw[if_pos (by decide +kernel)];kernel_rfl)| (rw[if_neg (by decide +kernel)];exact⟨rfl,rfl⟩))
  (fun os started H enc _=>aV2 os started H enc)
theorem fnExactChartSafe_card:Rows.FnExactChartSafeCardSaid:=
 Claim7.holds_tied_plain_at .later [] [.sentinel,.sentinel,.sentinel,.sentinel,.sentinel,.sentinel,.sentinel,.sentinel] true Rows.fnExactChartSafeCard.stood.harness true
  aFZ (fun _ h=>by cases h) (by kernel_rfl) (fun _ h=>by cases h) fnExactChartSafe_row_tie rfl ⟨rfl,rfl⟩ (by kernel_rfl) rfl
  (fun f fn hf hfn=>by
   obtain rfl:f=6:=Option.some.inj ((show Tryz.prog.funcNamed Rows.fnExactChartSafeRow.func=some 6 by kernel_rfl).symm.trans hf) |>.symm
   obtain rfl:fn=Tryz.f6:=(Option.some.inj (Tryz.func6.symm.trans hfn)).symm;exact⟨by kernel_rfl,fun j t ht=>by
    rw[Tryz.params6] at ht;have h3:t=22:=by
     rcases j with _| _| j
     ·simpa using ht.symm
     ·simpa using ht.symm
     ·simp at ht
    subst h3;exact(show Tryz.prog.wantsStandIn 22=false by kernel_rfl)⟩)
  (by kernel_rfl)
#print axioms fnExactChartSafe_card
end Go.Proofs.YtcebpkeiaiiphaaGreatDoor