import Derived.Test.YtcebpkeiaiiphaaGreatDoorRC16
set_option linter.unusedSimpArgs false
set_option linter.unusedVariables false
namespace Go.Proofs.YtcebpkeiaiiphaaGreatDoor
open Go.RowKit Go.Maps
theorem aV9:(Tryz.prog.info? 153).map (fun i=>(i.zero.map fun z=>z.cells.size,i.size,i.bytes))=some (some 2,2,32):=by kernel_rfl
theorem aJ8:∃(i:TypeInfo) (z:Value),Tryz.prog.info? 153=some i∧i.zero=some z∧i.size=2∧i.bytes=32∧z.cells.size=2:=by
 have h:=aV9;cases hi:Tryz.prog.info? 153 with
 |none=>rw[hi] at h;simp at h
 |some i=>
  rw[hi] at h;simp only[Option.map_some,Option.some.injEq,Prod.mk.injEq] at h;obtain⟨h1,h2,h3⟩:=h;cases hz:i.zero with
  |none=>rw[hz] at h1;simp at h1
  |some z=>rw[hz] at h1;exact⟨i,z,rfl,hz,h2,h3,by simpa using h1⟩
set_option maxRecDepth 20000 in
set_option maxHeartbeats 3200000 in
theorem aQK(w:World)(F:Nat->Prop)(B:Nat)(kv:Value)(m KL KL':Nat)(KS KS':List Value)(GL GL':Value->List Value)(sb off:Nat)(cs:Array Value)(T:TypeId)(a n:ByteArray)(x:Go.Proofs.YtcebpkeiaiiphaaGreatDoor.F)(na:Option Addr)(nl nc:Nat)
  (h:Lst w F FKy B 153 2 80 8 kv m KL KS GL) (hb:w.heap[sb]?=some (.cells cs T (0,0))) (h0:cs[off]?=some kv) (h1:cs[off+1]?=some (.map (some m))) (hsb:¬F sb) (hKL:KL<=1000000) (hGL:(GL (fk a n)).length<=1000000)
  (hk:aFA (GL (fk a n)) KL KS [.string a,.string n] KL' KS') (e1:GL' (fk a n)=GL (fk a n)++[.string x.name,.string x.of,.bool x.list,.bool x.must,.bool x.far,.bool x.hidden,.bool x.shared,.slice na nl nc]) (e2:∀y,y≠(fk a n)->GL' y=GL y):
  Calls Tryz.prog 145 #[.pointer (some ⟨sb,off,none⟩),.agg #[.string a,.string n],.agg #[.string x.name,.string x.of,.bool x.list,.bool x.must,.bool x.far,.bool x.hidden,.bool x.shared,.slice na nl nc]] w (aG8 w F FKy B 153 2 80 8 m sb off cs T KL' KS' GL'):=by
 obtain⟨iK,zK,hiK,hK0,hK1,hK2,hKz⟩:=aJ8;obtain⟨iF,zF,hiF,jF0,jF1,jF2,jFz⟩:=aDZ;have hsl:sb<w.heap.size:=(Array.getElem?_eq_some_iff.1 hb).1;have HB:=aA0 hb;have HE0:=aA0 h0;have HE1:=aA0 h1;have HGL:=aA0 hGL;have he1:=aA0 e1;have he2:=aA0 e2;have hfst:Hid (aFA (GL (fk a n)) KL KS [.string a,.string n] KL' KS'):=hk;have HX:Hid (∀X,X=((w.alloc (.cells #[.string a,.string n] 153)).alloc (.cells #[.string x.name,.string x.of,.bool x.list,.bool x.must,.bool x.far,.bool x.hidden,.bool x.shared,.slice na nl nc] 80))->Below w.heap.size w X∧w.heap.size+2<=X.heap.size∧X.heap[w.heap.size]?=some (.cells #[.string a,.string n] 153 (0,0))∧X.heap[(w.heap.size+1)]?=some (.cells #[.string x.name,.string x.of,.bool x.list,.bool x.must,.bool x.far,.bool x.hidden,.bool x.shared,.slice na nl nc] 80 (0,0))):=aA0 (by
  rintro X rfl;refine⟨aA6 w _ _,by simp,?_,?_⟩
  ·exact((aA2 _ _).block w.heap.size (by simp)).trans (aA3 _ _ rfl)
  ·exact aA3 _ _ (by simp))
 have HH:=aA0 h;have hHL:=aA0 h.map;clear h hb h0 h1 hGL e1 e2 hk;go_enter Tryz.func145,Tryz.ntmps145
 go_upto_region 1 with fail
 obtain⟨X,hXe⟩:∃X,X=((w.alloc (.cells #[.string a,.string n] 153)).alloc (.cells #[.string x.name,.string x.of,.bool x.list,.bool x.must,.bool x.far,.bool x.hidden,.bool x.shared,.slice na nl nc] 80)):=⟨_,rfl⟩;obtain⟨bX,zX,n0,n1⟩:=HX.out X hXe;rw[<-hXe];clear hXe HX;have HBX:=aA0 bX;have hLX:=HH.out.keep (fun b hb=>bX.block b (HH.out.bd b hb).2) bX.size;have HBB:=aA0 ((bX.block sb hsl).trans HB.out);have HEX:Hid (∀W:World,W.heap[w.heap.size]?=X.heap[w.heap.size]?->W.heap[(w.heap.size+1)]?=X.heap[(w.heap.size+1)]?->W.cell? ⟨w.heap.size,0,none⟩=some (.string a)∧W.cell? ⟨w.heap.size,1,none⟩=some (.string n)∧W.cell? ⟨(w.heap.size+1),0,none⟩=some (.string x.name)∧W.cell? ⟨(w.heap.size+1),1,none⟩=some (.string x.of)∧W.cell? ⟨(w.heap.size+1),2,none⟩=some (.bool x.list)∧W.cell? ⟨(w.heap.size+1),3,none⟩=some (.bool x.must)∧W.cell? ⟨(w.heap.size+1),4,none⟩=some (.bool x.far)∧W.cell? ⟨(w.heap.size+1),5,none⟩=some (.bool x.hidden)∧W.cell? ⟨(w.heap.size+1),6,none⟩=some (.bool x.shared)∧W.cell? ⟨(w.heap.size+1),7,none⟩=some (.slice na nl nc)):=aA0 fun W g0 g1=>by
  have n0:=g0.trans n0;have n1:=g1.trans n1;exact⟨(aA1 n0 0 (by simp)).1,(aA1 n0 1 (by simp)).1,(aA1 n1 0 (by simp)).1,(aA1 n1 1 (by simp)).1,(aA1 n1 2 (by simp)).1,(aA1 n1 3 (by simp)).1,(aA1 n1 4 (by simp)).1,(aA1 n1 5 (by simp)).1,(aA1 n1 6 (by simp)).1,(aA1 n1 7 (by simp)).1⟩
 have HHX:=aA0 hLX;have HLK0:Hid (∃v L,(∀W,Below X.heap.size X W->(Instr.lookup 139 (.map (some m)) (fk a n) false).run Tryz.prog W=.ok v W)∧((GL (fk a n)=[]∧v=.slice none 0 0)∨(GL (fk a n)≠[]∧0<L∧∃g cap,v=.slice (some ⟨g,0,none⟩) L cap))):=aA0 (by
  obtain⟨G,hO,hG⟩:=HHX.out.map;obtain⟨L,-,h3,-⟩:=hG.found (by decide) (fk a n)
  refine⟨_,L,fun W hW=>?_,h3⟩;have:=(hO.of_block (hW.block m HHX.out.mlt.2)).lookG false (keyF W) Tryz.underlying139 (aH3 W) (x:=(fk a n)) ⟨_,_,rfl⟩;simpa using this)
 obtain⟨v,L,hlk0,hv⟩:=HLK0.out;have HLK1:=aA0 hlk0;have HC9:Hid (∀W,Below X.heap.size X W->W.cell? ⟨sb,off+1,none⟩=some (.map (some m))∧W.cell? ⟨w.heap.size,0,none⟩=some (.string a)∧W.cell? ⟨w.heap.size,1,none⟩=some (.string n)∧W.cell? ⟨(w.heap.size+1),0,none⟩=some (.string x.name)∧W.cell? ⟨(w.heap.size+1),1,none⟩=some (.string x.of)∧W.cell? ⟨(w.heap.size+1),2,none⟩=some (.bool x.list)∧W.cell? ⟨(w.heap.size+1),3,none⟩=some (.bool x.must)∧W.cell? ⟨(w.heap.size+1),4,none⟩=some (.bool x.far)∧W.cell? ⟨(w.heap.size+1),5,none⟩=some (.bool x.hidden)∧W.cell? ⟨(w.heap.size+1),6,none⟩=some (.bool x.shared)∧W.cell? ⟨(w.heap.size+1),7,none⟩=some (.slice na nl nc)):=aA0 fun W hW=>⟨(aCW ((hW.block sb (by have:=bX.size;omega)).trans HBB.out) HE1.out).1,HEX.out W (hW.block _ (by omega)) (hW.block _ (by omega))⟩
 clear n0 n1 hlk0 HLK0 hLX;have zbX:=bX.size;clear bX;rcases hv with⟨hgl,rfl⟩| ⟨hgl,hL,g,cap,rfl⟩
 case' inl=>
  have HK1:Hid (KL'=KL+1∧KS'=KS++[.string a,.string n]):=aA0 (by
   rcases hfst.out with h| h
   ·exact h.2
   ·exact absurd hgl h.1)
  clear hgl;refine wp_region_held_drew (S:=(fun w'=>w'.cell? ⟨sb,off+1,none⟩=some (.map (some m))∧w'.cell? ⟨w.heap.size,0,none⟩=some (.string a)∧w'.cell? ⟨w.heap.size,1,none⟩=some (.string n)∧w'.cell? ⟨(w.heap.size+1),0,none⟩=some (.string x.name)∧w'.cell? ⟨(w.heap.size+1),1,none⟩=some (.string x.of)∧w'.cell? ⟨(w.heap.size+1),2,none⟩=some (.bool x.list)∧w'.cell? ⟨(w.heap.size+1),3,none⟩=some (.bool x.must)∧w'.cell? ⟨(w.heap.size+1),4,none⟩=some (.bool x.far)∧w'.cell? ⟨(w.heap.size+1),5,none⟩=some (.bool x.hidden)∧w'.cell? ⟨(w.heap.size+1),6,none⟩=some (.bool x.shared)∧w'.cell? ⟨(w.heap.size+1),7,none⟩=some (.slice na nl nc))) (by kernel_rfl) (HC9.out _ (Below.refl _ _).drew) (fun hHeld=>?_)
  have bX:Below X.heap.size X X.drew:=(Below.refl _ _).drew;have HBD:=aA0 bX;generalize X.drew=wD at*;refine tkH 0 hHeld ?_;refine tkH 1 hHeld ?_;refine tkH 2 hHeld ?_;refine tkH 3 hHeld ?_;refine tkH 4 hHeld ?_;refine rdyH [5] ?_;refine rcH (fun K hK=>?_) AllReadyH.nil;have hlk:=HLK1.out wD bX;simp only[fk] at hlk;go_simp
  clear hlk;refine hK.out _ _ (HC9.out _ bX) (fun hHeld=>?_);clear hK K;try simp only[Act.put,sIA,sI0,sIS]
  refine tkH 6 hHeld ?_;refine tkH 7 hHeld ?_;refine wpAnyH_done (by kernel_rfl) ?_ _
  go_wp2_with fail
  obtain⟨bD,zD⟩:Below X.heap.size X wD∧X.heap.size<=wD.heap.size:=⟨bX,bX.size⟩;have HBD2:=aA0 bD;have HC8:Hid (∀W,Below wD.heap.size wD W->W.cell? ⟨w.heap.size,0,none⟩=some (.string a)∧W.cell? ⟨w.heap.size,1,none⟩=some (.string n)∧W.cell? ⟨(w.heap.size+1),0,none⟩=some (.string x.name)∧W.cell? ⟨(w.heap.size+1),1,none⟩=some (.string x.of)∧W.cell? ⟨(w.heap.size+1),2,none⟩=some (.bool x.list)∧W.cell? ⟨(w.heap.size+1),3,none⟩=some (.bool x.must)∧W.cell? ⟨(w.heap.size+1),4,none⟩=some (.bool x.far)∧W.cell? ⟨(w.heap.size+1),5,none⟩=some (.bool x.hidden)∧W.cell? ⟨(w.heap.size+1),6,none⟩=some (.bool x.shared)∧W.cell? ⟨(w.heap.size+1),7,none⟩=some (.slice na nl nc)):=aA0 fun W hW=>(HC9.out W (HBD2.out.trans (hW.mono HBD2.out.size))).2;have HHD:=aA0 (HHX.out.keep (w':=wD) (fun b hb=>HBD2.out.block b (HHX.out.bd b hb).2) HBD2.out.size);have HBS:=aA0 ((HBD2.out.block sb (by omega)).trans HBB.out)
  have HKC:Hid (∀W,Below wD.heap.size wD W->W.cell? ⟨sb,off,none⟩=some kv):=aA0 fun W hW=>(aCW ((hW.block sb (by omega)).trans HBS.out) HE0.out).1
  have HKR:Hid (∀W,Below wD.heap.size wD W->W.ownsRow B 153 2 kv KL KS):=aA0 fun W hW=>aB2 HHD.out.keys fun g hg=>hW.block g (HHD.out.bd g (HHD.out.keyF g hg)).2;have hmB:=HHD.out.mlt;have HKF:Hid (∀b,kv.ownBlock=some b->F b∧b≠sb∧b<w.heap.size):=aA0 fun b e=>⟨HH.out.keyF b e,fun e2=>hsb (e2▸HH.out.keyF b e),(HH.out.bd b (HH.out.keyF b e)).2⟩;have HSF:Hid (∀W,Below wD.heap.size wD W->∀wF,W.grownBy wF kv.ownBlock->(wF.cell? ⟨w.heap.size,0,none⟩=some (.string a)∧wF.cell? ⟨w.heap.size,1,none⟩=some (.string n)∧wF.cell? ⟨(w.heap.size+1),0,none⟩=some (.string x.name)∧wF.cell? ⟨(w.heap.size+1),1,none⟩=some (.string x.of)∧wF.cell? ⟨(w.heap.size+1),2,none⟩=some (.bool x.list)∧wF.cell? ⟨(w.heap.size+1),3,none⟩=some (.bool x.must)∧wF.cell? ⟨(w.heap.size+1),4,none⟩=some (.bool x.far)∧wF.cell? ⟨(w.heap.size+1),5,none⟩=some (.bool x.hidden)∧wF.cell? ⟨(w.heap.size+1),6,none⟩=some (.bool x.shared)∧wF.cell? ⟨(w.heap.size+1),7,none⟩=some (.slice na nl nc))∧wF.heap[sb]?=some (.cells cs T (0,0))):=aA0 fun W hW wF hg=>by
   have hz:=hW.size;refine⟨HEX.out wF ?_ ?_,?_⟩
   ·exact(hg.block _ (by omega) fun e=>by have:=(HKF.out _ e.symm).2.2;omega).trans ((hW.block _ (by omega)).trans (HBD2.out.block _ (by omega)))
   ·exact(hg.block _ (by omega) fun e=>by have:=(HKF.out _ e.symm).2.2;omega).trans ((hW.block _ (by omega)).trans (HBD2.out.block _ (by omega)))
   ·exact(hg.block sb (by omega) fun e=>(HKF.out sb e.symm).2.1 rfl).trans ((hW.block sb (by omega)).trans HBS.out)
  have HEND1:Hid (∀W,Below wD.heap.size wD W->∀(g cap:Nat) (wF:World),wF.ownsRow B 153 2 (.slice (some ⟨g,0,none⟩) (KL+1) cap) (KL+1) (KS++[.string a,.string n])->W.grownBy wF kv.ownBlock->(kv.ownBlock=some g∨g=W.heap.size)->(∃F1,Lst (wF.setCell ⟨sb,off,none⟩ (.slice (some ⟨g,0,none⟩) (KL+1) cap)) F1 FKy B 153 2 80 8 (.slice (some ⟨g,0,none⟩) (KL+1) cap) m KL' KS' GL∧∀b,F1 b->F b∨X.heap.size<=b)∧(wF.setCell ⟨sb,off,none⟩ (.slice (some ⟨g,0,none⟩) (KL+1) cap)).heap[sb]?=some (.cells (cs.setIfInBounds off (.slice (some ⟨g,0,none⟩) (KL+1) cap)) T (0,0))∧aBD (fun b=>F b∨b=sb) X (wF.setCell ⟨sb,off,none⟩ (.slice (some ⟨g,0,none⟩) (KL+1) cap))∧(wF.setCell ⟨sb,off,none⟩ (.slice (some ⟨g,0,none⟩) (KL+1) cap)).cell? ⟨w.heap.size,0,none⟩=some (.string a)∧(wF.setCell ⟨sb,off,none⟩ (.slice (some ⟨g,0,none⟩) (KL+1) cap)).cell? ⟨w.heap.size,1,none⟩=some (.string n)∧(wF.setCell ⟨sb,off,none⟩ (.slice (some ⟨g,0,none⟩) (KL+1) cap)).cell? ⟨(w.heap.size+1),0,none⟩=some (.string x.name)∧(wF.setCell ⟨sb,off,none⟩ (.slice (some ⟨g,0,none⟩) (KL+1) cap)).cell? ⟨(w.heap.size+1),1,none⟩=some (.string x.of)∧(wF.setCell ⟨sb,off,none⟩ (.slice (some ⟨g,0,none⟩) (KL+1) cap)).cell? ⟨(w.heap.size+1),2,none⟩=some (.bool x.list)∧(wF.setCell ⟨sb,off,none⟩ (.slice (some ⟨g,0,none⟩) (KL+1) cap)).cell? ⟨(w.heap.size+1),3,none⟩=some (.bool x.must)∧(wF.setCell ⟨sb,off,none⟩ (.slice (some ⟨g,0,none⟩) (KL+1) cap)).cell? ⟨(w.heap.size+1),4,none⟩=some (.bool x.far)∧(wF.setCell ⟨sb,off,none⟩ (.slice (some ⟨g,0,none⟩) (KL+1) cap)).cell? ⟨(w.heap.size+1),5,none⟩=some (.bool x.hidden)∧(wF.setCell ⟨sb,off,none⟩ (.slice (some ⟨g,0,none⟩) (KL+1) cap)).cell? ⟨(w.heap.size+1),6,none⟩=some (.bool x.shared)∧(wF.setCell ⟨sb,off,none⟩ (.slice (some ⟨g,0,none⟩) (KL+1) cap)).cell? ⟨(w.heap.size+1),7,none⟩=some (.slice na nl nc)):=aA0 fun W hW g cap wF ho hg hor=>by
   have hz:=hW.size;have hs:=HSF.out W hW wF hg;have hgs:g≠sb:=fun e=>by
    subst e;rcases hor with h| h
    ·exact(HKF.out g h).2.1 rfl
    ·omega
   have hLW:=HHD.out.keep (fun b hb=>hW.block b (HHD.out.bd b hb).2) hW.size;have hLF:=hLW.key ho hg (fun b hb=>by
    have hb:g=b:=Option.some.inj hb;subst hb;rcases hor with h| h
    ·exact .inl h
    ·exact .inr (by omega))
   refine⟨⟨_,by rw[HK1.out.1,HK1.out.2];exact hLF.keep (fun b hb=>Below.heap_setCell _ _ _ _ (by
    rintro rfl;rcases hb with hb| hb
    ·exact hsb hb
    ·exact hgs (Option.some.inj hb))) (by simp),fun b hb=>?_⟩,aAC hs.2 off _,?_,HEX.out _ ?_ ?_⟩
   ·rcases hb with hb| hb
    ·exact .inl hb
    ·have hb:g=b:=Option.some.inj hb;subst hb;rcases hor with h| h
     ·exact .inl (HKF.out g h).1
     ·exact .inr (by omega)
   ·exact(((aBD.of_below (O:=fun b=>F b∨b=sb) HBD2.out).trans (aBD.of_below (O:=fun b=>F b∨b=sb) hW) (fun _ _ h=>h) fun _ _ h=>h).trans (aBD.grown (O:=fun b=>F b∨b=sb) hg fun b e _=>.inl (HKF.out b e).1) (fun _ _ h=>h) fun _ _ h=>h).set sb off _ (.inl (.inr rfl))
   ·exact(Below.heap_setCell _ _ _ _ (by show _≠sb;omega)).trans ((hg.block _ (by omega) fun e=>by have:=(HKF.out _ e.symm).2.2;omega).trans ((hW.block _ (by omega)).trans (HBD2.out.block _ (by omega))))
   ·exact(Below.heap_setCell _ _ _ _ (by show _≠sb;omega)).trans ((hg.block _ (by omega) fun e=>by have:=(HKF.out _ e.symm).2.2;omega).trans ((hW.block _ (by omega)).trans (HBD2.out.block _ (by omega))))
  clear bD;refine wp_region_held_drew (S:=(fun w'=>w'.cell? ⟨w.heap.size,0,none⟩=some (.string a)∧w'.cell? ⟨w.heap.size,1,none⟩=some (.string n)∧w'.cell? ⟨(w.heap.size+1),0,none⟩=some (.string x.name)∧w'.cell? ⟨(w.heap.size+1),1,none⟩=some (.string x.of)∧w'.cell? ⟨(w.heap.size+1),2,none⟩=some (.bool x.list)∧w'.cell? ⟨(w.heap.size+1),3,none⟩=some (.bool x.must)∧w'.cell? ⟨(w.heap.size+1),4,none⟩=some (.bool x.far)∧w'.cell? ⟨(w.heap.size+1),5,none⟩=some (.bool x.hidden)∧w'.cell? ⟨(w.heap.size+1),6,none⟩=some (.bool x.shared)∧w'.cell? ⟨(w.heap.size+1),7,none⟩=some (.slice na nl nc))) (by kernel_rfl) (HC8.out _ (Below.refl _ _).drew) (fun hHeld=>?_)
  have bX:Below wD.heap.size wD wD.drew:=(Below.refl _ _).drew;generalize wD.drew=wq at*;refine tkH 0 hHeld ?_;refine tkH 1 hHeld ?_;refine tkH 2 hHeld ?_;refine tkH 3 hHeld ?_;refine tkH 5 hHeld ?_;repeat' (first
   |refine tkL 8 hHeld ?_
   |refine tkL 9 hHeld ?_
   |refine rdyL [4,6] (rcH (fun K hK=>tgH 4 ?_) (rcH (fun K hK=>tgH 6 ?_) AllReadyH.nil))
   |refine rdyL [6] (rcH (fun K hK=>tgH 6 ?_) AllReadyH.nil)
   |refine rdyL [7] (rcH (fun K hK=>tgH 7 ?_) AllReadyH.nil)
   |refine rdyL [10] (rcH (fun K hK=>tgH 10 ?_) AllReadyH.nil)
   |refine rdyL [4] (rcH (fun K hK=>tgH 4 ?_) AllReadyH.nil)
   |(refine fun(tag:Hid (4=4))=>?_
     clear tag;have hc:=HKC.out wq bX;go_simp
     clear hc;refine hK.out _ _ (HC8.out _ bX) (fun hHeld=>?_);clear hK K;try simp only[Act.put,sIA,sI0,sIS])
   |(refine fun(tag:Hid (6=6))=>?_
     clear tag;go_simp
     have bE:=aA2 wq (.cells #[.string a,.string n] 153);obtain⟨gE,hgE⟩:∃g,g=wq.heap.size:=⟨_,rfl⟩;have nE:=aA3 (w:=wq) (N:=gE) #[.string a,.string n] 153 hgE.symm;have bX:=bX.trans (bE.mono bX.size);refine hK.out _ _ (HC8.out _ bX) (fun hHeld=>?_);clear hK K;try simp only[Act.put,sIA,sI0,sIS]
     rw[<-hgE];generalize wq.alloc (.cells #[.string a,.string n] 153)=wn at*;clear hgE bE;generalize wn=wq at *)
   |(refine fun(tag:Hid (7=7))=>?_
     clear tag;refine step_append_lies _ rfl (.tmp 18) (.tmp 20) 138 rfl B 153 iK zK 2 32 Tryz.underlying138 hiK hK0 hK1 hK2 hKz (by decide) kv KL KS rfl (HKR.out wq bX) ⟨gE,0,none⟩ 1 1 [.string a,.string n] rfl rfl (World.news_of_block nE) (by intro u hu;simp at hu;rcases hu with rfl| rfl<;>rfl) (by omega) (by unfold maxLen;omega) (by omega) (by have:=bX.size;omega) _ rfl ?_
     intro gF capF wn oF hgF horF hltF;obtain⟨hsF,hbF⟩:=HSF.out wq bX wn hgF;have HAF:=aA0 (HEND1.out wq bX gF capF wn oF hgF horF);have HZF:=aA0 (aCW hbF HE0.out);clear oF hgF horF hbF;refine hK.out _ _ hsF (fun hHeld=>?_);clear hK K;try simp only[Act.put,sIA,sI0,sIS]
     generalize wn=wq at *)
   |(refine fun(tag:Hid (10=10))=>?_
     clear tag;obtain⟨hc,hz⟩:=HZF.out;go_simp
     clear hc hz;refine hK.out _ _ HAF.out.2.2.2 (fun hHeld=>?_);clear hK K;try simp only[Act.put,sIA,sI0,sIS]))
  all_goals
   refine wpAnyH_done (by kernel_rfl) ?_ _
   obtain⟨kv1,hkv1⟩:∃x,Hid (x=Value.slice (some ⟨gF,0,none⟩) (KL+1) capF):=⟨_,aA0 rfl⟩;obtain⟨w1,hw1⟩:∃x,x=wq.setCell ⟨sb,off,none⟩ (.slice (some ⟨gF,0,none⟩) (KL+1) capF):=⟨_,rfl⟩;rw[<-hw1];have HAG:=HAF.out;rw[<-hw1,<-hkv1.out] at HAG;obtain⟨q1,q2,q3,q4⟩:=HAG;have HL1:=aA0 q1;have HB1:=aA0 q2;have HO1:=aA0 q3;have HX1:=aA0 q4;clear q1 q2 q3 q4 hw1 HAF HZF hkv1 HKC HKR HKF HSF HEND1 HHD HBS HC8 HK1
  all_goals go_wp2_with fail
 case' inr=>
  have HK1:Hid (KL'=KL∧KS'=KS):=aA0 (by
   rcases hfst.out with h| h
   ·exact absurd h.1 hgl
   ·exact h.2)
  clear hgl;have hL0:¬(L:Int)=0:=by omega
  refine wp_region_held_drew (S:=(fun w'=>w'.cell? ⟨sb,off+1,none⟩=some (.map (some m))∧w'.cell? ⟨w.heap.size,0,none⟩=some (.string a)∧w'.cell? ⟨w.heap.size,1,none⟩=some (.string n)∧w'.cell? ⟨(w.heap.size+1),0,none⟩=some (.string x.name)∧w'.cell? ⟨(w.heap.size+1),1,none⟩=some (.string x.of)∧w'.cell? ⟨(w.heap.size+1),2,none⟩=some (.bool x.list)∧w'.cell? ⟨(w.heap.size+1),3,none⟩=some (.bool x.must)∧w'.cell? ⟨(w.heap.size+1),4,none⟩=some (.bool x.far)∧w'.cell? ⟨(w.heap.size+1),5,none⟩=some (.bool x.hidden)∧w'.cell? ⟨(w.heap.size+1),6,none⟩=some (.bool x.shared)∧w'.cell? ⟨(w.heap.size+1),7,none⟩=some (.slice na nl nc))) (by kernel_rfl) (HC9.out _ (Below.refl _ _).drew) (fun hHeld=>?_)
  have bX:Below X.heap.size X X.drew:=(Below.refl _ _).drew;have HBD:=aA0 bX;generalize X.drew=wD at*;refine tkH 0 hHeld ?_;refine tkH 1 hHeld ?_;refine tkH 2 hHeld ?_;refine tkH 3 hHeld ?_;refine tkH 4 hHeld ?_;refine rdyH [5] ?_;refine rcH (fun K hK=>?_) AllReadyH.nil;have hlk:=HLK1.out wD bX;simp only[fk] at hlk;go_simp
  clear hlk;refine hK.out _ _ (HC9.out _ bX) (fun hHeld=>?_);clear hK K;try simp only[Act.put,sIA,sI0,sIS]
  refine tkH 6 hHeld ?_;refine tkH 7 hHeld ?_;refine wpAnyH_done (by kernel_rfl) ?_ _
  go_wp2_with fail
  obtain⟨kv1,hkv1⟩:∃x,Hid (x=kv):=⟨_,aA0 rfl⟩;obtain⟨w1,hw1⟩:∃x,x=wD:=⟨_,rfl⟩;have HL1:Hid (∃F1,Lst w1 F1 FKy B 153 2 80 8 kv1 m KL' KS' GL∧∀b,F1 b->F b∨X.heap.size<=b):=aA0 ⟨F,by rw[HK1.out.1,HK1.out.2,hkv1.out,hw1];exact HHX.out.keep (fun b hb=>bX.block b (HHX.out.bd b hb).2) bX.size,fun b hb=>.inl hb⟩
  have HB1:Hid (w1.heap[sb]?=some (.cells (cs.setIfInBounds off kv1) T (0,0))):=aA0 (by rw[hkv1.out,aJ0 HE0.out,hw1];exact(bX.block sb (by omega)).trans HBB.out)
  have HO1:Hid (aBD (fun b=>F b∨b=sb) X w1):=aA0 (by rw[hw1];exact aBD.of_below bX)
  have HX1:Hid (w1.cell? ⟨w.heap.size,0,none⟩=some (.string a)∧w1.cell? ⟨w.heap.size,1,none⟩=some (.string n)∧w1.cell? ⟨(w.heap.size+1),0,none⟩=some (.string x.name)∧w1.cell? ⟨(w.heap.size+1),1,none⟩=some (.string x.of)∧w1.cell? ⟨(w.heap.size+1),2,none⟩=some (.bool x.list)∧w1.cell? ⟨(w.heap.size+1),3,none⟩=some (.bool x.must)∧w1.cell? ⟨(w.heap.size+1),4,none⟩=some (.bool x.far)∧w1.cell? ⟨(w.heap.size+1),5,none⟩=some (.bool x.hidden)∧w1.cell? ⟨(w.heap.size+1),6,none⟩=some (.bool x.shared)∧w1.cell? ⟨(w.heap.size+1),7,none⟩=some (.slice na nl nc)):=aA0 (by rw[hw1];exact(HC9.out _ bX).2)
  rw[<-hw1];clear hkv1 HK1 hL0 hL hw1 bX HBD
 all_goals
  obtain⟨F1,hL1,hF1⟩:=HL1.out;obtain⟨G,hO,hG⟩:=hL1.map;obtain⟨L1,hrow,-,hfp⟩:=hG.found (by decide) (fk a n)
  have hlen:=hrow.1;have hmlt:=hL1.mlt;have HGG:=aA0 hG;obtain⟨v1,hv1⟩:∃x,Hid (x=(G (fk a n)).getD (.slice none 0 0)):=⟨_,aA0 rfl⟩;rw[<-hv1.out] at hrow hfp;have hgl:=HGL.out;have hLn:L1<=1000000:=by omega
  have hfs:∀g,F1 g->g≠sb∧(g<w.heap.size∨X.heap.size<=g):=fun g hg=>by
   rcases hF1 g hg with h| h
   ·exact⟨fun e=>hsb (e▸h),.inl (HH.out.bd g h).2⟩
   ·exact⟨by omega,.inr h⟩
  have hm1:=hfs m hL1.mapF;have HRW:Hid (∀W,Below w1.heap.size w1 W->W.ownsRow B 80 8 v1 L1 (GL (fk a n))):=aA0 fun W hW=>aB2 hrow fun g hg=>hW.block g (hL1.bd g (hfp g hg)).2;have HOW:Hid (∀W,Below w1.heap.size w1 W->aDI W FKy m G):=aA0 fun W hW=>hO.of_block (hW.block m hmlt.2);have HLK:Hid (∀W,Below w1.heap.size w1 W->(Instr.lookup 139 (.map (some m)) (fk a n) false).run Tryz.prog W=.ok v1 W):=aA0 fun W hW=>by
   have h:=(HOW.out W hW).lookG false (keyF W) Tryz.underlying139 (aH3 W) (x:=(fk a n)) ⟨_,_,rfl⟩;rw[hv1.out];simpa using h
  have hz1:=HO1.out.size;have HC0:Hid (∀W:World,W.heap[sb]?=w1.heap[sb]?->W.cell? ⟨sb,off+1,none⟩=some (.map (some m))):=aA0 fun W hW=>by
   refine(aCW (hW.trans HB1.out) ?_).1;rw[Array.getElem?_setIfInBounds_ne (by omega)]
   exact HE1.out
  have HCX:Hid (∀W:World,W.heap[w.heap.size]?=w1.heap[w.heap.size]?->W.heap[(w.heap.size+1)]?=w1.heap[(w.heap.size+1)]?->W.cell? ⟨w.heap.size,0,none⟩=some (.string a)∧W.cell? ⟨w.heap.size,1,none⟩=some (.string n)∧W.cell? ⟨(w.heap.size+1),0,none⟩=some (.string x.name)∧W.cell? ⟨(w.heap.size+1),1,none⟩=some (.string x.of)∧W.cell? ⟨(w.heap.size+1),2,none⟩=some (.bool x.list)∧W.cell? ⟨(w.heap.size+1),3,none⟩=some (.bool x.must)∧W.cell? ⟨(w.heap.size+1),4,none⟩=some (.bool x.far)∧W.cell? ⟨(w.heap.size+1),5,none⟩=some (.bool x.hidden)∧W.cell? ⟨(w.heap.size+1),6,none⟩=some (.bool x.shared)∧W.cell? ⟨(w.heap.size+1),7,none⟩=some (.slice na nl nc)):=aA0 fun W g0 g1=>by
   have h:=HX1.out;exact⟨(World.cell?_of_block (a:=⟨w.heap.size,0,none⟩) g0).trans h.1,(World.cell?_of_block (a:=⟨w.heap.size,1,none⟩) g0).trans h.2.1,(World.cell?_of_block (a:=⟨(w.heap.size+1),0,none⟩) g1).trans h.2.2.1,(World.cell?_of_block (a:=⟨(w.heap.size+1),1,none⟩) g1).trans h.2.2.2.1,(World.cell?_of_block (a:=⟨(w.heap.size+1),2,none⟩) g1).trans h.2.2.2.2.1,(World.cell?_of_block (a:=⟨(w.heap.size+1),3,none⟩) g1).trans h.2.2.2.2.2.1,(World.cell?_of_block (a:=⟨(w.heap.size+1),4,none⟩) g1).trans h.2.2.2.2.2.2.1,(World.cell?_of_block (a:=⟨(w.heap.size+1),5,none⟩) g1).trans h.2.2.2.2.2.2.2.1,(World.cell?_of_block (a:=⟨(w.heap.size+1),6,none⟩) g1).trans h.2.2.2.2.2.2.2.2.1,(World.cell?_of_block (a:=⟨(w.heap.size+1),7,none⟩) g1).trans h.2.2.2.2.2.2.2.2.2⟩
  have HC1:Hid (∀W,Below w1.heap.size w1 W->W.cell? ⟨sb,off+1,none⟩=some (.map (some m))∧W.cell? ⟨w.heap.size,0,none⟩=some (.string a)∧W.cell? ⟨w.heap.size,1,none⟩=some (.string n)∧W.cell? ⟨(w.heap.size+1),0,none⟩=some (.string x.name)∧W.cell? ⟨(w.heap.size+1),1,none⟩=some (.string x.of)∧W.cell? ⟨(w.heap.size+1),2,none⟩=some (.bool x.list)∧W.cell? ⟨(w.heap.size+1),3,none⟩=some (.bool x.must)∧W.cell? ⟨(w.heap.size+1),4,none⟩=some (.bool x.far)∧W.cell? ⟨(w.heap.size+1),5,none⟩=some (.bool x.hidden)∧W.cell? ⟨(w.heap.size+1),6,none⟩=some (.bool x.shared)∧W.cell? ⟨(w.heap.size+1),7,none⟩=some (.slice na nl nc)):=aA0 fun W hW=>⟨HC0.out W (hW.block sb (by omega)),HCX.out W (hW.block _ (by omega)) (hW.block _ (by omega))⟩
  have HSF:Hid (∀W,Below w1.heap.size w1 W->∀wF,W.grownBy wF v1.ownBlock->(wF.cell? ⟨sb,off+1,none⟩=some (.map (some m))∧wF.cell? ⟨w.heap.size,0,none⟩=some (.string a)∧wF.cell? ⟨w.heap.size,1,none⟩=some (.string n)∧wF.cell? ⟨(w.heap.size+1),0,none⟩=some (.string x.name)∧wF.cell? ⟨(w.heap.size+1),1,none⟩=some (.string x.of)∧wF.cell? ⟨(w.heap.size+1),2,none⟩=some (.bool x.list)∧wF.cell? ⟨(w.heap.size+1),3,none⟩=some (.bool x.must)∧wF.cell? ⟨(w.heap.size+1),4,none⟩=some (.bool x.far)∧wF.cell? ⟨(w.heap.size+1),5,none⟩=some (.bool x.hidden)∧wF.cell? ⟨(w.heap.size+1),6,none⟩=some (.bool x.shared)∧wF.cell? ⟨(w.heap.size+1),7,none⟩=some (.slice na nl nc))∧aDI wF FKy m G):=aA0 fun W hW wF hg=>by
   have hz:=hW.size;have hbl:∀b,b<w1.heap.size->¬F1 b->wF.heap[b]?=w1.heap[b]?:=fun b hb hn=>(hg.block b (by omega) fun e=>hn (hfp b e.symm)).trans (hW.block b hb)
   exact⟨⟨HC0.out wF (hbl sb (by omega) fun h=>(hfs sb h).1 rfl),HCX.out wF (hbl _ (by omega) fun h=>by have:=(hfs _ h).2;omega) (hbl _ (by omega) fun h=>by have:=(hfs _ h).2;omega)⟩,(HOW.out W hW).of_block (hg.block m (by omega) fun e=>aCF hO hrow e.symm)⟩
  have HST:Hid (∀wF w2:World,wF.grownBy w2 (some m)->(wF.cell? ⟨sb,off+1,none⟩=some (.map (some m))∧wF.cell? ⟨w.heap.size,0,none⟩=some (.string a)∧wF.cell? ⟨w.heap.size,1,none⟩=some (.string n)∧wF.cell? ⟨(w.heap.size+1),0,none⟩=some (.string x.name)∧wF.cell? ⟨(w.heap.size+1),1,none⟩=some (.string x.of)∧wF.cell? ⟨(w.heap.size+1),2,none⟩=some (.bool x.list)∧wF.cell? ⟨(w.heap.size+1),3,none⟩=some (.bool x.must)∧wF.cell? ⟨(w.heap.size+1),4,none⟩=some (.bool x.far)∧wF.cell? ⟨(w.heap.size+1),5,none⟩=some (.bool x.hidden)∧wF.cell? ⟨(w.heap.size+1),6,none⟩=some (.bool x.shared)∧wF.cell? ⟨(w.heap.size+1),7,none⟩=some (.slice na nl nc))->w2.cell? ⟨sb,off+1,none⟩=some (.map (some m))∧w2.cell? ⟨w.heap.size,0,none⟩=some (.string a)∧w2.cell? ⟨w.heap.size,1,none⟩=some (.string n)∧w2.cell? ⟨(w.heap.size+1),0,none⟩=some (.string x.name)∧w2.cell? ⟨(w.heap.size+1),1,none⟩=some (.string x.of)∧w2.cell? ⟨(w.heap.size+1),2,none⟩=some (.bool x.list)∧w2.cell? ⟨(w.heap.size+1),3,none⟩=some (.bool x.must)∧w2.cell? ⟨(w.heap.size+1),4,none⟩=some (.bool x.far)∧w2.cell? ⟨(w.heap.size+1),5,none⟩=some (.bool x.hidden)∧w2.cell? ⟨(w.heap.size+1),6,none⟩=some (.bool x.shared)∧w2.cell? ⟨(w.heap.size+1),7,none⟩=some (.slice na nl nc)):=aA0 fun wF w2 hg hc=>⟨hg.cell hc.1 (fun e=>hm1.1 (Option.some.inj e).symm),hg.cell hc.2.1 (fun e=>by have:=hm1.2;have e:_=m:=Option.some.inj e;simp only at e;omega),hg.cell hc.2.2.1 (fun e=>by have:=hm1.2;have e:_=m:=Option.some.inj e;simp only at e;omega),hg.cell hc.2.2.2.1 (fun e=>by have:=hm1.2;have e:_=m:=Option.some.inj e;simp only at e;omega),hg.cell hc.2.2.2.2.1 (fun e=>by have:=hm1.2;have e:_=m:=Option.some.inj e;simp only at e;omega),hg.cell hc.2.2.2.2.2.1 (fun e=>by have:=hm1.2;have e:_=m:=Option.some.inj e;simp only at e;omega),hg.cell hc.2.2.2.2.2.2.1 (fun e=>by have:=hm1.2;have e:_=m:=Option.some.inj e;simp only at e;omega),hg.cell hc.2.2.2.2.2.2.2.1 (fun e=>by have:=hm1.2;have e:_=m:=Option.some.inj e;simp only at e;omega),hg.cell hc.2.2.2.2.2.2.2.2.1 (fun e=>by have:=hm1.2;have e:_=m:=Option.some.inj e;simp only at e;omega),hg.cell hc.2.2.2.2.2.2.2.2.2.1 (fun e=>by have:=hm1.2;have e:_=m:=Option.some.inj e;simp only at e;omega),hg.cell hc.2.2.2.2.2.2.2.2.2.2 (fun e=>by have:=hm1.2;have e:_=m:=Option.some.inj e;simp only at e;omega)⟩
  have HEND:Hid (∀W,Below w1.heap.size w1 W->∀(g cap:Nat) (wF:World),wF.ownsRow B 80 8 (.slice (some ⟨g,0,none⟩) (L1+1) cap) (L1+1) (GL (fk a n)++[.string x.name,.string x.of,.bool x.list,.bool x.must,.bool x.far,.bool x.hidden,.bool x.shared,.slice na nl nc])->W.grownBy wF v1.ownBlock->(v1.ownBlock=some g∨g=W.heap.size)->∀(w2:World) (G2:Value->Option Value),aDI w2 FKy m G2->G2 (fk a n)=some (.slice (some ⟨g,0,none⟩) (L1+1) cap)->(∀y,y≠(fk a n)->G2 y=G y)->wF.grownBy w2 (some m)->aG8 w F FKy B 153 2 80 8 m sb off cs T KL' KS' GL' (.returned (.tuple #[])) w2):=aA0 fun W hW g cap wF ho hg hor w2 G2 q1 q2 q3 q4=>by
   have hz:=hW.size;have hzF:=hg.size;have hz2:=q4.size;have hLW:=hL1.keep (fun b hb=>hW.block b (hL1.bd b hb).2) hW.size;have hGW:Grps W F1 B 80 8 kv1 G GL:=⟨HGG.out.nil0,fun k v hk=>by
    obtain⟨L,h1,h2⟩:=HGG.out.row k v hk;exact⟨L,h1,aB2 h2 fun g hg=>hW.block g (hL1.bd g (HGG.out.fp k v g hk hg).1).2⟩,HGG.out.fp,HGG.out.apart⟩
   have hg':=hg;have hor':=hor;rw[hv1.out] at hg' hor';have hnb:∀b,(Value.slice (some ⟨g,0,none⟩) (L1+1) cap).ownBlock=some b->v1.ownBlock=some b∨W.heap.size<=b:=fun b hb=>by
    have hb:g=b:=Option.some.inj hb;subst hb;rcases hor with h| h
    ·exact .inl h
    ·exact .inr (by omega)
   have hnb':=hnb;rw[hv1.out] at hnb';have hP:=hLW.put (HOW.out W hW) hGW ho (Nat.succ_pos _) hg' hnb' q1 q2 q3 q4 he1.out he2.out;have hFw:∀b,F1 b->F b∨w.heap.size<=b:=fun b hb=>(hF1 b hb).imp id fun h=>by omega
   have hgs:∀b,(Value.slice (some ⟨g,0,none⟩) (L1+1) cap).ownBlock=some b->F b∨w.heap.size<=b:=fun b hb=>by
    rcases hnb b hb with h| h
    ·exact hFw b (hfp b h)
    ·exact .inr (by omega)
   refine⟨rfl,⟨_,_,hP,?_,fun b hb=>?_⟩,?_⟩
   ·refine(q4.block sb (by omega) fun e=>hm1.1 (Option.some.inj e).symm).trans ((hg.block sb (by omega) fun e=>(hfs sb (hfp sb e.symm)).1 rfl).trans ((hW.block sb (by omega)).trans HB1.out))
   ·rcases hb with hb| hb
    ·exact hFw b hb
    ·exact hgs b hb
   ·refine((aBD.of_below (O:=fun b=>F b∨b=sb) HBX.out).trans HO1.out (fun _ _ h=>h) fun _ _ h=>h).trans (((aBD.of_below (O:=fun b=>F1 b) hW).trans (aBD.grown (O:=fun b=>F1 b) hg fun b e _=>hfp b e) (fun _ _ h=>h) fun _ _ h=>h).trans (aBD.grown (O:=fun b=>F1 b) q4 fun b e _=>by cases e;exact hL1.mapF) (fun _ _ h=>h) fun _ _ h=>h) (fun _ _ h=>h) fun b hb h=>?_
    rcases hF1 b h with h| h
    ·exact .inl h
    ·omega
  clear hL1 hO hG hrow hlen hfp hfs hgl;refine wp_region_held_drew (S:=(fun w'=>w'.cell? ⟨sb,off+1,none⟩=some (.map (some m))∧w'.cell? ⟨w.heap.size,0,none⟩=some (.string a)∧w'.cell? ⟨w.heap.size,1,none⟩=some (.string n)∧w'.cell? ⟨(w.heap.size+1),0,none⟩=some (.string x.name)∧w'.cell? ⟨(w.heap.size+1),1,none⟩=some (.string x.of)∧w'.cell? ⟨(w.heap.size+1),2,none⟩=some (.bool x.list)∧w'.cell? ⟨(w.heap.size+1),3,none⟩=some (.bool x.must)∧w'.cell? ⟨(w.heap.size+1),4,none⟩=some (.bool x.far)∧w'.cell? ⟨(w.heap.size+1),5,none⟩=some (.bool x.hidden)∧w'.cell? ⟨(w.heap.size+1),6,none⟩=some (.bool x.shared)∧w'.cell? ⟨(w.heap.size+1),7,none⟩=some (.slice na nl nc))) (by kernel_rfl) (HC1.out _ (Below.refl _ _).drew) (fun hHeld=>?_)
  have bX:Below w1.heap.size w1 w1.drew:=(Below.refl _ _).drew;generalize w1.drew=wD9 at*;refine tkH 0 hHeld ?_;refine tkH 1 hHeld ?_;refine tkH 2 hHeld ?_;refine tkH 3 hHeld ?_;refine tkH 4 hHeld ?_;refine tkH 5 hHeld ?_;refine tkH 6 hHeld ?_;refine tkH 7 hHeld ?_;refine tkH 8 hHeld ?_;refine tkH 9 hHeld ?_;refine tkH 11 hHeld ?_;refine rdyH [10,12] ?_;refine rcH (fun K hK=>?_) ?_
  ·have hlk:=HLK.out wD9 bX;simp only[fk] at hlk;go_simp
   clear hlk;refine hK.out _ _ (HC1.out _ bX) (fun hHeld=>?_);clear hK K;try simp only[Act.put,sIA,sI0,sIS]
   refine rdyH [12] ?_;refine rcH (fun K hK=>?_) AllReadyH.nil;go_simp
   have bE:=aA2 wD9 (.cells #[.string x.name,.string x.of,.bool x.list,.bool x.must,.bool x.far,.bool x.hidden,.bool x.shared,.slice na nl nc] 80);obtain⟨gE,hgE⟩:∃g,g=wD9.heap.size:=⟨_,rfl⟩;have nE:=aA3 (w:=wD9) (N:=gE) #[.string x.name,.string x.of,.bool x.list,.bool x.must,.bool x.far,.bool x.hidden,.bool x.shared,.slice na nl nc] 80 hgE.symm;have bX:=bX.trans (bE.mono bX.size);refine hK.out _ _ (HC1.out _ bX) (fun hHeld=>?_);clear hK K;try simp only[Act.put,sIA,sI0,sIS]
   rw[<-hgE];generalize wD9.alloc (.cells #[.string x.name,.string x.of,.bool x.list,.bool x.must,.bool x.far,.bool x.hidden,.bool x.shared,.slice na nl nc] 80)=wE at*;clear hgE bE;refine rdyH [13] ?_;refine rcH (fun K hK=>?_) AllReadyH.nil;refine step_append_lies _ rfl (.tmp 34) (.tmp 36) 94 rfl B 80 iF zF 8 64 Tryz.underlying94 hiF jF0 jF1 jF2 jFz (by decide) v1 L1 (GL (fk a n)) rfl (HRW.out wE bX) ⟨gE,0,none⟩ 1 1 [.string x.name,.string x.of,.bool x.list,.bool x.must,.bool x.far,.bool x.hidden,.bool x.shared,.slice na nl nc] rfl rfl (World.news_of_block nE) (by intro u hu;simp at hu;rcases hu with rfl| rfl| rfl| rfl| rfl| rfl| rfl| rfl<;>rfl) (by omega) (by unfold maxLen;omega) (by omega) (by have:=bX.size;omega) _ rfl ?_
   intro gF capF wF oF hgF horF hltF;obtain⟨hsF,hOF⟩:=HSF.out wE bX wF hgF;have HAF:=aA0 (HEND.out wE bX gF capF wF oF hgF horF);have HOF:=aA0 hOF;clear oF hgF horF hOF;refine hK.out _ _ hsF (fun hHeld=>?_);clear hK K;try simp only[Act.put,sIA,sI0,sIS]
   refine rdyH [14] ?_;refine rcH (fun K hK=>?_) AllReadyH.nil;obtain⟨wT,G2,hrun,hG2,hGx,hGo,hgr⟩:=HOF.out.storeG (keyF _) Tryz.underlying139 (x:=(fk a n)) ⟨_,_,rfl⟩ (.slice (some ⟨gF,0,none⟩) (L1+1) capF);have HFN:=aA0 (HAF.out wT G2 hG2 hGx hGo hgr);have hsT:=HST.out wF wT hgr hsF;simp only[fk] at hrun;go_simp
   clear hrun hG2 hGx hGo hgr;refine hK.out _ _ hsT (fun hHeld=>?_);clear hK K;try simp only[Act.put,sIA,sI0,sIS]
   refine wpAnyH_done (by kernel_rfl) ?_ _
   go_wp2_with fail
   refine bodyPost_end (v:=.tuple #[]) ?res rfl HFN.out;case res=>simp[results,Tryz.results145,go_sem]
  refine rcH (fun K hK=>?_) AllReadyH.nil;go_simp
  have bE:=aA2 wD9 (.cells #[.string x.name,.string x.of,.bool x.list,.bool x.must,.bool x.far,.bool x.hidden,.bool x.shared,.slice na nl nc] 80);obtain⟨gE,hgE⟩:∃g,g=wD9.heap.size:=⟨_,rfl⟩;have nE:=aA3 (w:=wD9) (N:=gE) #[.string x.name,.string x.of,.bool x.list,.bool x.must,.bool x.far,.bool x.hidden,.bool x.shared,.slice na nl nc] 80 hgE.symm;have bX:=bX.trans (bE.mono bX.size);refine hK.out _ _ (HC1.out _ bX) (fun hHeld=>?_);clear hK K;try simp only[Act.put,sIA,sI0,sIS]
  rw[<-hgE];generalize wD9.alloc (.cells #[.string x.name,.string x.of,.bool x.list,.bool x.must,.bool x.far,.bool x.hidden,.bool x.shared,.slice na nl nc] 80)=wE at*;clear hgE bE;refine rdyH [10] ?_;refine rcH (fun K hK=>?_) AllReadyH.nil;have hlk:=HLK.out wE bX;simp only[fk] at hlk;go_simp
  clear hlk;refine hK.out _ _ (HC1.out _ bX) (fun hHeld=>?_);clear hK K;try simp only[Act.put,sIA,sI0,sIS]
  refine rdyH [13] ?_;refine rcH (fun K hK=>?_) AllReadyH.nil;refine step_append_lies _ rfl (.tmp 34) (.tmp 36) 94 rfl B 80 iF zF 8 64 Tryz.underlying94 hiF jF0 jF1 jF2 jFz (by decide) v1 L1 (GL (fk a n)) rfl (HRW.out wE bX) ⟨gE,0,none⟩ 1 1 [.string x.name,.string x.of,.bool x.list,.bool x.must,.bool x.far,.bool x.hidden,.bool x.shared,.slice na nl nc] rfl rfl (World.news_of_block nE) (by intro u hu;simp at hu;rcases hu with rfl| rfl| rfl| rfl| rfl| rfl| rfl| rfl<;>rfl) (by omega) (by unfold maxLen;omega) (by omega) (by have:=bX.size;omega) _ rfl ?_
  intro gF capF wF oF hgF horF hltF;obtain⟨hsF,hOF⟩:=HSF.out wE bX wF hgF;have HAF:=aA0 (HEND.out wE bX gF capF wF oF hgF horF);have HOF:=aA0 hOF;clear oF hgF horF hOF;refine hK.out _ _ hsF (fun hHeld=>?_);clear hK K;try simp only[Act.put,sIA,sI0,sIS]
  refine rdyH [14] ?_;refine rcH (fun K hK=>?_) AllReadyH.nil;obtain⟨wT,G2,hrun,hG2,hGx,hGo,hgr⟩:=HOF.out.storeG (keyF _) Tryz.underlying139 (x:=(fk a n)) ⟨_,_,rfl⟩ (.slice (some ⟨gF,0,none⟩) (L1+1) capF);have HFN:=aA0 (HAF.out wT G2 hG2 hGx hGo hgr);have hsT:=HST.out wF wT hgr hsF;simp only[fk] at hrun;go_simp
  clear hrun hG2 hGx hGo hgr;refine hK.out _ _ hsT (fun hHeld=>?_);clear hK K;try simp only[Act.put,sIA,sI0,sIS]
  refine wpAnyH_done (by kernel_rfl) ?_ _
  go_wp2_with fail
  refine bodyPost_end (v:=.tuple #[]) ?res rfl HFN.out;case res=>simp[results,Tryz.results145,go_sem]
end Go.Proofs.YtcebpkeiaiiphaaGreatDoor
