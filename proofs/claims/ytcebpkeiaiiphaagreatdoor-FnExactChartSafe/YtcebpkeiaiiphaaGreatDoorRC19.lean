import Derived.Test.YtcebpkeiaiiphaaGreatDoorRC16
set_option linter.unusedSimpArgs false
set_option linter.unusedVariables false
namespace Go.Proofs.YtcebpkeiaiiphaaGreatDoor
open Go.RowKit Go.Maps
attribute [local go_sem] Oper.semAt_some
set_option maxRecDepth 20000 in
set_option maxHeartbeats 3200000 in
theorem aQP(t:T)(f:F)(fa na:Option Addr)(fc nc:Nat)(w:World)(P Q:Nat->Prop)(hT:TRep w P t (.agg #[.string t.name,.string t.key,.slice fa t.fields.length fc]))(hF:FRep w Q f (fval f na nc))(hP:∀b,P b->b<w.heap.size)(hQ:∀b,Q b->b<w.heap.size)(hl:t.fields.length<=1000000000)(hl2:f.needs.length<=1000000000)(hx:aAB t f.name=-1):
  Calls Tryz.prog 71 #[.agg #[.string t.name,.string t.key,.slice fa t.fields.length fc],fval f na nc] w fun e w'=>∃fa' fc',e=.returned (.agg #[.string t.name,.string t.key,.slice fa' (putF t f).fields.length fc'])∧TRep w' (fun b=>P b∨Q b∨(w.heap.size<=b∧b<w'.heap.size)) (putF t f) (.agg #[.string t.name,.string t.key,.slice fa' (putF t f).fields.length fc'])∧Below w.heap.size w w':=by
 obtain⟨iF,zF,hiF,hF0,hF1,hF2,hFz⟩:=aDZ;obtain⟨i9,hi9,hy0,hy1,hy2⟩:=info_parts aMV;obtain⟨X,hXe⟩:∃X,X=((w.alloc (.cells #[.string t.name,.string t.key,.slice fa t.fields.length fc] 96)).alloc (.cells #[.string f.name,.string f.of,.bool f.list,.bool f.must,.bool f.far,.bool f.hidden,.bool f.shared,.slice na f.needs.length nc] 80)).alloc (.cells #[.string ⟨#[]⟩,.string ⟨#[]⟩,.slice none 0 0] 96):=⟨_,rfl⟩;have zX:X.heap.size=w.heap.size+3:=by rw[hXe];simp
 have bw:Below w.heap.size w X:=by rw[hXe];exact(((Below.refl _ _).alloc (Nat.le_refl _) _).alloc (by simp) _).alloc (by simp<;>omega) _
 have n0:X.heap[w.heap.size]?=some (.cells #[.string t.name,.string t.key,.slice fa t.fields.length fc] 96 (0,0)):=by
  rw[hXe,(aA2 _ _).block _ (by simp<;>omega),(aA2 _ _).block _ (by simp)]
  exact aA3 _ _ rfl
 have n1:X.heap[w.heap.size+1]?=some (.cells #[.string f.name,.string f.of,.bool f.list,.bool f.must,.bool f.far,.bool f.hidden,.bool f.shared,.slice na f.needs.length nc] 80 (0,0)):=by
  rw[hXe,(aA2 _ _).block _ (by simp)]
  exact aA3 _ _ (by simp)
 have n2:X.heap[w.heap.size+1+1]?=some (.cells #[.string ⟨#[]⟩,.string ⟨#[]⟩,.slice none 0 0] 96 (0,0)):=by
  rw[hXe];exact aA3 _ _ (by simp)
 have HX:Hid (∀W,Below X.heap.size X W->(W.cell? ⟨w.heap.size,0,none⟩=some (.string t.name)∧W.cell? ⟨w.heap.size,1,none⟩=some (.string t.key)∧W.cell? ⟨w.heap.size,2,none⟩=some (.slice fa t.fields.length fc))∧(W.cell? ⟨w.heap.size+1,0,none⟩=some (.string f.name)∧W.cell? ⟨w.heap.size+1,1,none⟩=some (.string f.of)∧W.cell? ⟨w.heap.size+1,2,none⟩=some (.bool f.list)∧W.cell? ⟨w.heap.size+1,3,none⟩=some (.bool f.must)∧W.cell? ⟨w.heap.size+1,4,none⟩=some (.bool f.far)∧W.cell? ⟨w.heap.size+1,5,none⟩=some (.bool f.hidden)∧W.cell? ⟨w.heap.size+1,6,none⟩=some (.bool f.shared)∧W.cell? ⟨w.heap.size+1,7,none⟩=some (.slice na f.needs.length nc))∧W.heap[w.heap.size]?=some (.cells #[.string t.name,.string t.key,.slice fa t.fields.length fc] 96 (0,0))∧W.heap[w.heap.size+1+1]?=some (.cells #[.string ⟨#[]⟩,.string ⟨#[]⟩,.slice none 0 0] 96 (0,0))∧Below w.heap.size w W):=aA0 fun W hW=>by
  have h0:=(hW.block _ (by omega)).trans n0
  have h1:=(hW.block _ (by omega)).trans n1
  exact⟨⟨(aA1 h0 0 (by simp)).1,(aA1 h0 1 (by simp)).1,(aA1 h0 2 (by simp)).1⟩,⟨(aA1 h1 0 (by simp)).1,(aA1 h1 1 (by simp)).1,(aA1 h1 2 (by simp)).1,(aA1 h1 3 (by simp)).1,(aA1 h1 4 (by simp)).1,(aA1 h1 5 (by simp)).1,(aA1 h1 6 (by simp)).1,(aA1 h1 7 (by simp)).1⟩,h0,(hW.block _ (by omega)).trans n2,bw.trans (hW.mono (by omega))⟩
 have HXF:Hid (∀W,Below X.heap.size X W->W.frozen? ⟨w.heap.size,2,none⟩=false):=aA0 fun W hW=>(aA1 (HX.out W hW).2.2.1 2 (by simp)).2
 have HST:Hid (∀W,Below X.heap.size X W->∀v,(W.setCell ⟨w.heap.size,2,none⟩ v).cell? ⟨w.heap.size+1,0,none⟩=some (.string f.name)∧(W.setCell ⟨w.heap.size,2,none⟩ v).cell? ⟨w.heap.size+1,1,none⟩=some (.string f.of)∧(W.setCell ⟨w.heap.size,2,none⟩ v).cell? ⟨w.heap.size+1,2,none⟩=some (.bool f.list)∧(W.setCell ⟨w.heap.size,2,none⟩ v).cell? ⟨w.heap.size+1,3,none⟩=some (.bool f.must)∧(W.setCell ⟨w.heap.size,2,none⟩ v).cell? ⟨w.heap.size+1,4,none⟩=some (.bool f.far)∧(W.setCell ⟨w.heap.size,2,none⟩ v).cell? ⟨w.heap.size+1,5,none⟩=some (.bool f.hidden)∧(W.setCell ⟨w.heap.size,2,none⟩ v).cell? ⟨w.heap.size+1,6,none⟩=some (.bool f.shared)∧(W.setCell ⟨w.heap.size,2,none⟩ v).cell? ⟨w.heap.size+1,7,none⟩=some (.slice na f.needs.length nc)):=aA0 fun W hW v=>by
  have hbl:∀o,(W.setCell ⟨w.heap.size,2,none⟩ v).cell? ⟨w.heap.size+1,o,none⟩=W.cell? ⟨w.heap.size+1,o,none⟩:=fun o=>World.cell?_of_block (a:=⟨w.heap.size+1,o,none⟩) (Below.heap_setCell _ _ _ _ (by show w.heap.size+1≠w.heap.size;omega))
  simp only[hbl];exact(HX.out W hW).2.1
 have hT':=hT;obtain⟨fa',fc',e,hFs,-⟩:=hT;simp only[Value.agg.injEq,Array.mk.injEq,List.cons.injEq,Value.slice.injEq,true_and,and_true] at e;obtain⟨rfl,rfl⟩:=e;obtain⟨h64,Cf,hAr,hCr⟩:=hFs;have HLF:Hid (∀W,Below X.heap.size X W->aFL W fa t.fields.length (aCL Cf t.fields.length)):=aA0 fun W hW=>aKI (hAr.mono fun b hb=>(HX.out W hW).2.2.2.2.block b (hP b hb));have HOF:Hid (∀u∈ aCL Cf t.fields.length,u.oneCell'=true):=aA0 (aMC hCr);have HNS:Hid (Strs w Q f.needs na):=aA0 (by
  obtain⟨na',nc',e,h1,-⟩:=hF;unfold fval at e;simp only[Value.agg.injEq,Array.mk.injEq,List.cons.injEq,Value.slice.injEq,true_and,and_true] at e;obtain⟨rfl,rfl⟩:=e;exact h1)
 have HLN:Hid (∀W,Below X.heap.size X W->aFL W na f.needs.length (f.needs.map Value.string)):=aA0 fun W hW=>aGO (HNS.out.mono fun b hb=>(HX.out W hW).2.2.2.2.block b (hQ b hb));have HFI:=aA0 (fun W (hW:Below X.heap.size X W)=>aD3 t W w.heap.size _ f.name ((hT'.mono fun b hb=>(HX.out W hW).2.2.2.2.block b (hP b hb)).sub fun b hb=>hP b hb) (HX.out W hW).2.2.2.2.size);have HFX:Hid (aAB t f.name=aA9 (fun i=>(fth t.fields i).name.toList==f.name.toList) t.fields.length):=aA0 rfl;rw[<-HFX.out,hx] at HFI;have HCR:=aA0 (And.intro hAr hCr);have HT':=aA0 hT';have HF':=aA0 hF;obtain⟨⟨x0,x1,x2⟩,⟨y0,-⟩,-⟩:=HX.out X (Below.refl _ _);rw[hXe] at x0 x1 x2 y0;unfold fval;go_enter Tryz.func71,Tryz.ntmps71
 clear hAr hCr hT' hF n0 n1 n2 HFX;go_wp2_with fail
 clear x0 x1 x2 y0;rw[<-hXe];clear hXe;refine(HFI.out X (Below.refl _ _)).mono ?_;rintro e w1 ⟨rfl,hb1⟩;have HX1:=aA0 (fun W (hW:Below w1.heap.size w1 W)=>hb1.trans (hW.mono hb1.size));go_wp2_with fail
 have hbD1:Below X.heap.size X w1.drew:=hb1.trans ((Below.refl _ _).drew.mono hb1.size);refine wp_region_held_drew (S:=(fun w'=>w'.cell? ⟨w.heap.size+1,0,none⟩=some (.string f.name)∧w'.cell? ⟨w.heap.size+1,1,none⟩=some (.string f.of)∧w'.cell? ⟨w.heap.size+1,2,none⟩=some (.bool f.list)∧w'.cell? ⟨w.heap.size+1,3,none⟩=some (.bool f.must)∧w'.cell? ⟨w.heap.size+1,4,none⟩=some (.bool f.far)∧w'.cell? ⟨w.heap.size+1,5,none⟩=some (.bool f.hidden)∧w'.cell? ⟨w.heap.size+1,6,none⟩=some (.bool f.shared)∧w'.cell? ⟨w.heap.size+1,7,none⟩=some (.slice na f.needs.length nc))) (by kernel_rfl) (HX.out _ hbD1).2.1 (fun hHeld=>?_)
 have bX:=hbD1;generalize w1.drew=wq at*;refine tkH 1 hHeld ?_;refine tkH 4 hHeld ?_;refine tkH 5 hHeld ?_;refine tkH 6 hHeld ?_;refine tkH 7 hHeld ?_;refine tkH 8 hHeld ?_;refine tkH 9 hHeld ?_;refine tkH 10 hHeld ?_;refine tkH 11 hHeld ?_;refine tkH 12 hHeld ?_;refine tkH 13 hHeld ?_;refine tkH 15 hHeld ?_;refine tkH 16 hHeld ?_;repeat' (first
  |refine tkL 18 hHeld ?_
  |refine tkL 21 hHeld ?_
  |refine rdyL [0,2,14] (rcH (fun K hK=>tgH 0 ?_) (rcH (fun K hK=>tgH 2 ?_) (rcH (fun K hK=>tgH 14 ?_) AllReadyH.nil)))
  |refine rdyL [2,14] (rcH (fun K hK=>tgH 2 ?_) (rcH (fun K hK=>tgH 14 ?_) AllReadyH.nil))
  |refine rdyL [3,14] (rcH (fun K hK=>tgH 3 ?_) (rcH (fun K hK=>tgH 14 ?_) AllReadyH.nil))
  |refine rdyL [14] (rcH (fun K hK=>tgH 14 ?_) AllReadyH.nil)
  |refine rdyL [17] (rcH (fun K hK=>tgH 17 ?_) AllReadyH.nil)
  |refine rdyL [19] (rcH (fun K hK=>tgH 19 ?_) AllReadyH.nil)
  |refine rdyL [20] (rcH (fun K hK=>tgH 20 ?_) AllReadyH.nil)
  |refine rdyL [22] (rcH (fun K hK=>tgH 22 ?_) AllReadyH.nil)
  |refine rdyL [3] (rcH (fun K hK=>tgH 3 ?_) AllReadyH.nil)
  |refine rdyL [2] (rcH (fun K hK=>tgH 2 ?_) AllReadyH.nil)
  |refine rdyL [0,14] (rcH (fun K hK=>tgH 0 ?_) (rcH (fun K hK=>tgH 14 ?_) AllReadyH.nil))
  |refine rdyL [0] (rcH (fun K hK=>tgH 0 ?_) AllReadyH.nil)
  |refine rdyL [0,2] (rcH (fun K hK=>tgH 0 ?_) (rcH (fun K hK=>tgH 2 ?_) AllReadyH.nil))
  |(refine fun(tag:Hid (0=0))=>?_
    clear tag;go_simp
    have bA:=aA2 wq (.cells #[] 80);obtain⟨gA,hgA⟩:∃g,g=wq.heap.size:=⟨_,rfl⟩;have nA:=aA3 (w:=wq) (N:=gA) #[] 80 hgA.symm;have zA:gA<(wq.alloc (.cells #[] 80)).heap.size:=by simp;omega
    have qA:X.heap.size<=gA:=by have:=bX.size;omega
    have bX:=bX.trans (bA.mono bX.size);have kA:∀b,b<wq.heap.size->(wq.alloc (.cells #[] 80)).heap[b]?=wq.heap[b]?:=fun b hb=>bA.block b hb;have sA:=bA.size
    (try (have nAC:gA≠gC:=by omega))
    (try ((try (have nC:=(kA gC zC).trans nC))))
    (try ((try (have zC:=Nat.lt_of_lt_of_le zC sA))))
    (try ((try (have oB:=aB9 oB fun j hj=>by cases hj;exact kA gB zB))))
    (try ((try (have zB:=Nat.lt_of_lt_of_le zB sA))))
    (try ((try (have oD:=aB9 oD fun j hj=>by cases hj;exact kA gD zD))))
    (try ((try (have zD:=Nat.lt_of_lt_of_le zD sA))))
    refine hK.out _ _ (HX.out _ bX).2.1 (fun hHeld=>?_);clear hK K;try simp only[Act.put,sIA,sI0,sIS]
    rw[<-hgA];generalize wq.alloc (.cells #[] 80)=wn at*;clear hgA;generalize wn=wq at *)
  |(refine fun(tag:Hid (2=2))=>?_
    clear tag;have c2:=(HX.out wq bX).1.2.2;go_simp
    clear c2;refine hK.out _ _ (HX.out _ bX).2.1 (fun hHeld=>?_);clear hK K;try simp only[Act.put,sIA,sI0,sIS])
  |(refine fun(tag:Hid (14=14))=>?_
    clear tag;go_simp
    have bC:=aA2 wq (.cells #[] 9);obtain⟨gC,hgC⟩:∃g,g=wq.heap.size:=⟨_,rfl⟩;have nC:=aA3 (w:=wq) (N:=gC) #[] 9 hgC.symm;have zC:gC<(wq.alloc (.cells #[] 9)).heap.size:=by simp;omega
    have qC:X.heap.size<=gC:=by have:=bX.size;omega
    have bX:=bX.trans (bC.mono bX.size);have kC:∀b,b<wq.heap.size->(wq.alloc (.cells #[] 9)).heap[b]?=wq.heap[b]?:=fun b hb=>bC.block b hb;have sC:=bC.size
    (try (have nAC:gA≠gC:=by omega))
    (try (have nBC:gB≠gC:=by omega))
    (try ((try (have nA:=(kC gA zA).trans nA))))
    (try ((try (have zA:=Nat.lt_of_lt_of_le zA sC))))
    (try ((try (have oB:=aB9 oB fun j hj=>by cases hj;exact kC gB zB))))
    (try ((try (have zB:=Nat.lt_of_lt_of_le zB sC))))
    (try ((try (have oD:=aB9 oD fun j hj=>by cases hj;exact kC gD zD))))
    (try ((try (have zD:=Nat.lt_of_lt_of_le zD sC))))
    refine hK.out _ _ (HX.out _ bX).2.1 (fun hHeld=>?_);clear hK K;try simp only[Act.put,sIA,sI0,sIS]
    rw[<-hgC];generalize wq.alloc (.cells #[] 9)=wn at*;clear hgC;generalize wn=wq at *)
  |(refine fun(tag:Hid (3=3))=>?_
    clear tag;refine aBO rfl (.tmp 13) (.tmp 15) 94 rfl X.heap.size 80 iF zF 8 64 Tryz.underlying94 hiF hF0 hF1 hF2 hFz (by decide) gA 0 0 [] rfl ⟨rfl,Or.inr ⟨_,0,_,rfl,qA,nA,Nat.le_refl _,by unfold maxLen;omega,rfl,rfl⟩⟩ fa t.fields.length fc (aCL Cf t.fields.length) rfl (aDE _ _) (HLF.out wq bX) HOF.out (by unfold maxLen;omega) (by omega) bX.size ?_
    intro gB capB wn oB hgrB hatB;have kB:∀b,b<wq.heap.size->b≠gA->wn.heap[b]?=wq.heap[b]?:=fun b hb hne=>hgrB.block b hb (fun e=>hne (Option.some.inj e));have sB:=hgrB.size;have zB:gB<wn.heap.size:=(oB.lt gB rfl).2;have qB:X.heap.size<=gB:=(oB.lt gB rfl).1;have bX:=bX.grown hgrB bX.size (fun k hk=>by cases hk;exact qA)
    (try (have nBC:gB≠gC:=by omega))
    (try (have nC:=(kB gC zC (fun e=>nAC e.symm)).trans nC))
    (try (have zC:=Nat.lt_of_lt_of_le zC sB))
    clear hgrB
    (try ((try (have nA:=(kB gA zA).trans nA))))
    (try ((try (have zA:=Nat.lt_of_lt_of_le zA sB))))
    (try ((try (have nC:=(kB gC zC).trans nC))))
    (try ((try (have zC:=Nat.lt_of_lt_of_le zC sB))))
    (try ((try (have oD:=aB9 oD fun j hj=>by cases hj;exact kB gD zD))))
    (try ((try (have zD:=Nat.lt_of_lt_of_le zD sB))))
    refine hK.out _ _ (HX.out _ bX).2.1 (fun hHeld=>?_);clear hK K;try simp only[Act.put,sIA,sI0,sIS]
    generalize wn=wq at *)
  |(refine fun(tag:Hid (17=17))=>?_
    clear tag;refine aBO rfl (.tmp 27) (.tmp 29) 33 rfl X.heap.size 9 i9 (.string ByteArray.empty) 1 16 Tryz.underlying33 hi9 hy0 hy1 hy2 rfl (by decide) gC 0 0 [] rfl ⟨rfl,Or.inr ⟨_,0,_,rfl,qC,nC,Nat.le_refl _,by unfold maxLen;omega,rfl,rfl⟩⟩ na f.needs.length nc (f.needs.map Value.string) rfl (by simp) (HLN.out wq bX) (aEW _) (by unfold maxLen;omega) (by omega) bX.size ?_
    intro gD capD wn oD hgrD hatD;have kD:∀b,b<wq.heap.size->b≠gC->wn.heap[b]?=wq.heap[b]?:=fun b hb hne=>hgrD.block b hb (fun e=>hne (Option.some.inj e));have sD:=hgrD.size;have zD:gD<wn.heap.size:=(oD.lt gD rfl).2;have qD:X.heap.size<=gD:=(oD.lt gD rfl).1;have bX:=bX.grown hgrD bX.size (fun k hk=>by cases hk;exact qC)
    have oB:=aB9 oB fun j hj=>by cases hj;exact kD gB zB nBC
    have nBD:gB≠gD:=by omega
    have zB:=Nat.lt_of_lt_of_le zB sD;simp only[Nat.zero_add,List.nil_append] at oB oD;clear hgrD
    (try ((try (have nA:=(kD gA zA).trans nA))))
    (try ((try (have zA:=Nat.lt_of_lt_of_le zA sD))))
    (try ((try (have nC:=(kD gC zC).trans nC))))
    (try ((try (have zC:=Nat.lt_of_lt_of_le zC sD))))
    (try ((try (have oB:=aB9 oB fun j hj=>by cases hj;exact kD gB zB))))
    (try ((try (have zB:=Nat.lt_of_lt_of_le zB sD))))
    refine hK.out _ _ (HX.out _ bX).2.1 (fun hHeld=>?_);clear hK K;try simp only[Act.put,sIA,sI0,sIS]
    simp only[Nat.zero_add];generalize wn=wq at *)
  |(refine fun(tag:Hid (19=19))=>?_
    clear tag;go_simp
    have bE:=aA2 wq (.cells #[.string f.name,.string f.of,.bool f.list,.bool f.must,.bool false,.bool f.hidden,.bool false,.slice (some ⟨gD,0,none⟩) f.needs.length capD] 80);obtain⟨gE,hgE⟩:∃g,g=wq.heap.size:=⟨_,rfl⟩;have nE:=aA3 (w:=wq) (N:=gE) #[.string f.name,.string f.of,.bool f.list,.bool f.must,.bool false,.bool f.hidden,.bool false,.slice (some ⟨gD,0,none⟩) f.needs.length capD] 80 hgE.symm;have zE:gE<(wq.alloc (.cells #[.string f.name,.string f.of,.bool f.list,.bool f.must,.bool false,.bool f.hidden,.bool false,.slice (some ⟨gD,0,none⟩) f.needs.length capD] 80)).heap.size:=by simp;omega
    have qE:X.heap.size<=gE:=by have:=bX.size;omega
    have bX:=bX.trans (bE.mono bX.size);have kE:∀b,b<wq.heap.size->(wq.alloc (.cells #[.string f.name,.string f.of,.bool f.list,.bool f.must,.bool false,.bool f.hidden,.bool false,.slice (some ⟨gD,0,none⟩) f.needs.length capD] 80)).heap[b]?=wq.heap[b]?:=fun b hb=>bE.block b hb;have sE:=bE.size
    (try ((try (have nA:=(kE gA zA).trans nA))))
    (try ((try (have zA:=Nat.lt_of_lt_of_le zA sE))))
    (try ((try (have nC:=(kE gC zC).trans nC))))
    (try ((try (have zC:=Nat.lt_of_lt_of_le zC sE))))
    (try ((try (have oB:=aB9 oB fun j hj=>by cases hj;exact kE gB zB))))
    (try ((try (have zB:=Nat.lt_of_lt_of_le zB sE))))
    (try ((try (have oD:=aB9 oD fun j hj=>by cases hj;exact kE gD zD))))
    (try ((try (have zD:=Nat.lt_of_lt_of_le zD sE))))
    refine hK.out _ _ (HX.out _ bX).2.1 (fun hHeld=>?_);clear hK K;try simp only[Act.put,sIA,sI0,sIS]
    rw[<-hgE];generalize wq.alloc (.cells #[.string f.name,.string f.of,.bool f.list,.bool f.must,.bool false,.bool f.hidden,.bool false,.slice (some ⟨gD,0,none⟩) f.needs.length capD] 80)=wn at*;clear hgE;generalize wn=wq at *)
  |(refine fun(tag:Hid (20=20))=>?_
    clear tag;refine aBO rfl (.tmp 16) (.tmp 32) 94 rfl X.heap.size 80 iF zF 8 64 Tryz.underlying94 hiF hF0 hF1 hF2 hFz (by decide) gB t.fields.length capB (aCL Cf t.fields.length) rfl oB (some ⟨gE,0,none⟩) 1 1 [.string f.name,.string f.of,.bool f.list,.bool f.must,.bool false,.bool f.hidden,.bool false,.slice (some ⟨gD,0,none⟩) f.needs.length capD] rfl rfl (fun _=>⟨_,rfl,World.news_of_block nE⟩) (by intro u hu;simp at hu;rcases hu with rfl| rfl| rfl| rfl| rfl| rfl| rfl| rfl<;>rfl) (by unfold maxLen;omega) (by omega) bX.size ?_
    intro gF capF wn oF hgrF hatF;have bX:=bX.grown hgrF bX.size (fun k hk=>by cases hk;exact qB)
    have oD:=aB9 oD fun j hj=>by cases hj;exact hgrF.block gD zD (fun e=>nBD (Option.some.inj e).symm)
    clear hgrF
    (try ((try (have nA:=(kF gA zA).trans nA))))
    (try ((try (have zA:=Nat.lt_of_lt_of_le zA sF))))
    (try ((try (have nC:=(kF gC zC).trans nC))))
    (try ((try (have zC:=Nat.lt_of_lt_of_le zC sF))))
    (try ((try (have oB:=aB9 oB fun j hj=>by cases hj;exact kF gB zB))))
    (try ((try (have zB:=Nat.lt_of_lt_of_le zB sF))))
    (try ((try (have oD:=aB9 oD fun j hj=>by cases hj;exact kF gD zD))))
    (try ((try (have zD:=Nat.lt_of_lt_of_le zD sF))))
    refine hK.out _ _ (HX.out _ bX).2.1 (fun hHeld=>?_);clear hK K;try simp only[Act.put,sIA,sI0,sIS]
    generalize wn=wq at *)
  |(refine fun(tag:Hid (22=22))=>?_
    clear tag;have c2:=(HX.out wq bX).1.2.2;have c2f:=(HXF.out wq bX);go_simp
    clear c2 c2f;refine hK.out _ _ (HST.out _ bX _) (fun hHeld=>?_);clear hK K;try simp only[Act.put,sIA,sI0,sIS]))
 all_goals
  refine wpAnyH_done (by kernel_rfl) ?_ _
  obtain⟨wS,hwS⟩:∃wS,wS=wq.setCell ⟨w.heap.size,2,none⟩ (.slice (some ⟨gF,0,none⟩) (t.fields.length+1) capF):=⟨_,rfl⟩;have hn0:wS.heap[w.heap.size]?=some (.cells #[.string t.name,.string t.key,.slice (some ⟨gF,0,none⟩) (t.fields.length+1) capF] 96 (0,0)):=by rw[hwS];exact aAC (HX.out wq bX).2.2.1 2 _
  have hkS:∀b,b≠w.heap.size->wS.heap[b]?=wq.heap[b]?:=fun b hb=>by rw[hwS];exact Below.heap_setCell _ _ _ _ hb
  have hn2:=(hkS (w.heap.size+1+1) (by omega)).trans (HX.out wq bX).2.2.2.1
  have bS:Below w.heap.size w wS:=by rw[hwS];exact(HX.out wq bX).2.2.2.2.setCell (Nat.le_refl _) _
  have hcf:t.fields.length+1<=capF:=by obtain⟨-,h| ⟨_,_,_,h,-,-,h2,-⟩⟩:=oF<;>simp_all
  have hcd:f.needs.length<=capD:=by obtain⟨-,h| ⟨_,_,_,h,-,-,h2,-⟩⟩:=oD<;>simp_all
  have oF:=aB9 oF fun j hj=>by cases hj;exact hkS gF (by have:=(oF.lt gF rfl).1;omega)
  have oD:=aB9 oD fun j hj=>by cases hj;exact hkS gD (by have:=(oD.lt gD rfl).1;omega)
  have HO:=aA0 (And.intro oF oD);have HBS:=aA0 bS;rw[<-hwS];clear oF oD hwS hkS bS;obtain⟨a0,-⟩:=aA1 hn0 0 (by simp)
  obtain⟨a1,-⟩:=aA1 hn0 1 (by simp)
  obtain⟨a2,-⟩:=aA1 hn0 2 (by simp)
  obtain⟨r0,s0⟩:=aA1 hn2 0 (by simp)
  obtain⟨r1,s1⟩:=aA1 hn2 1 (by simp)
  obtain⟨r2,s2⟩:=aA1 hn2 2 (by simp)
  go_wp2_with fail
  obtain⟨d0,d1,d2⟩:=aDX hn2 rfl (.string t.name) (.string t.key) (.slice (some ⟨gF,0,none⟩) (t.fields.length+1) capF);refine bodyPost_ret (aEQ _ _ (w.heap.size+1+1) _ _ _ rfl d0 d1 d2) rfl ?_;exact aV1 HT'.out HF'.out hP hl hl2 hx HCR.out.2 (by omega) (by omega) (by omega) HO.out hcf hcd HBS.out _ _ _ _ rfl
end Go.Proofs.YtcebpkeiaiiphaaGreatDoor
