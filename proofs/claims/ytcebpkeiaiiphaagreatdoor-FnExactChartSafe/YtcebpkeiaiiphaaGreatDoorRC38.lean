import Derived.Test.YtcebpkeiaiiphaaGreatDoorRC33
set_option linter.unusedSimpArgs false
set_option linter.unusedVariables false
namespace Go.Proofs.YtcebpkeiaiiphaaGreatDoor
open Go.RowKit Go.Maps
def jh(L:List F):Nat->Bool
 |0=>false
 |k+1=>jh L k||(fth L k).hidden
def jn(L:List F):Nat->List ByteArray
 |0=>[]
 |k+1=>if(fth L k).needs.length=0 then jn L k else(fth L k).needs
theorem aOU(L:List F)(f0:F):∀k,k<=L.length->(L.take k).foldl putS ⟨f0.name,f0.of,f0.list,f0.must,false,false,false,[]⟩=⟨f0.name,f0.of,f0.list,f0.must,false,jh L k,false,jn L k⟩
 |0,_=>rfl
 |k+1,h=>by
  have hk:k<L.length:=h;have e:fth L k=L[k]:=by simp[fth,List.getD_eq_getElem?_getD,hk]
  rw[List.take_add_one,List.getElem?_eq_getElem hk,List.foldl_append,aOU L f0 k (by omega),jh,jn,e]
  rfl
theorem aTQ{L:List F}(h:0<L.length):aCM L=⟨(fth L 0).name,(fth L 0).of,(fth L 0).list,(fth L 0).must,false,jh L L.length,false,jn L L.length⟩:=by
 rw[<-aOU L (fth L 0) L.length (Nat.le_refl _),List.take_length];cases L with
 |nil=>simp at h
 |cons f r=>
  have e:fth (f::r) 0=f:=rfl;rw[e,List.foldl_cons,aCM]
  congr 1
  unfold putS newS;by_cases hn:f.needs.length=0
  ·have:f.needs=[]:=List.length_eq_zero_iff.1 hn;simp[this]
  ·simp[hn]
theorem aFM{w:World}{N:Nat}{T:TypeId}{a0 a1 a2 a3 a4 a5 a6 a7:Value}(hb:w.heap[N]?=some (.cells #[a0,a1,a2,a3,a4,a5,a6,a7] T (0,0)))(v0 v1 v2 v3 v4 v5 v6 v7:Value):
  ((((((((w.setCell ⟨N,0,none⟩ v0).setCell ⟨N,1,none⟩ v1).setCell ⟨N,2,none⟩ v2).setCell ⟨N,3,none⟩ v3).setCell ⟨N,4,none⟩ v4).setCell ⟨N,5,none⟩ v5).setCell ⟨N,6,none⟩ v6).setCell ⟨N,7,none⟩ v7).heap[N]?=some (.cells #[v0,v1,v2,v3,v4,v5,v6,v7] T (0,0)):=by
 simpa using aAC (aAC (aAC (aAC (aAC (aAC (aAC (aAC hb 0 v0) 1 v1) 2 v2) 3 v3) 4 v4) 5 v5) 6 v6) 7 v7
theorem aSN(FW:World)(tmps:Array Value)(N:Nat)(v0 v1 v2 v3 v4 v5 v6 v7:Value)(h2:tmps.getD 2 undef=.pointer (some ⟨N,0,none⟩))
  (d0:FW.cell? ⟨N,0,none⟩=some v0) (d1:FW.cell? ⟨N,1,none⟩=some v1) (d2:FW.cell? ⟨N,2,none⟩=some v2) (d3:FW.cell? ⟨N,3,none⟩=some v3) (d4:FW.cell? ⟨N,4,none⟩=some v4) (d5:FW.cell? ⟨N,5,none⟩=some v5) (d6:FW.cell? ⟨N,6,none⟩=some v6) (d7:FW.cell? ⟨N,7,none⟩=some v7):
  (results Tryz.f118 tmps).run Tryz.prog FW=.ok (.agg #[v0,v1,v2,v3,v4,v5,v6,v7]) FW:=by
 simp only[Array.getD_eq_getD_getElem?] at h2;simp[results,Tryz.results118,go_sem,h2,d0,d1,d2,d3,d4,d5,d6,d7]
def JB(ob:Nat)(f0:F)(h:Bool)(ns:List ByteArray)(wr:World):Prop:=∃(na:Option Addr) (nc:Nat),wr.heap[ob]?=some (.cells #[.string f0.name,.string f0.of,.bool f0.list,.bool f0.must,.bool false,.bool h,.bool false,.slice na ns.length nc] 80 (0,0))∧Strs wr (fun b=>ob<b∧b<wr.heap.size) ns na∧ns.length<=nc∧ns.length<=1000000
theorem JB.below{ob:Nat}{f0:F}{h:Bool}{ns:List ByteArray}{wr wy:World}(hJ:JB ob f0 h ns wr)(hb:Below wr.heap.size wr wy):JB ob f0 h ns wy:=by
 obtain⟨na,nc,h1,h2,h3⟩:=hJ;exact⟨na,nc,(hb.block ob (Array.getElem?_eq_some_iff.1 h1).1).trans h1,(h2.mono fun b hb2=>hb.block b hb2.2).sub fun b hb2=>⟨hb2.1,Nat.lt_of_lt_of_le hb2.2 hb.size⟩,h3⟩
set_option maxRecDepth 20000 in
set_option maxHeartbeats 6400000 in
theorem aKA(L:List F)(w:World)(B:Nat)(a:Option Addr)(c:Nat)(hR:aBJ w (·<B) L a)(hB:B<=w.heap.size)(hL:0<L.length)(hnl:∀i,i<L.length->(fth L i).needs.length<=1000000):
  Calls Tryz.prog 118 #[.slice a L.length c] w fun e w'=>∃na nc,e=.returned (.agg (fcl (aCM L) na nc).toArray)∧Below w.heap.size w w'∧FRep w' (fun b=>w.heap.size<=b∧b<w'.heap.size) (aCM L) (.agg (fcl (aCM L) na nc).toArray):=by
 have HR:=aA0 hR;have HBL:=aA0 hB;have h64:=hR.1;have HJS:=aA0 (aTQ hL);have HNL:=aA0 hnl;obtain⟨fb,fo,na0,nc0,rfl,hF0,hcc⟩:=hR.at hB 0 hL;have HF0:Hid ((fth L 0).name.size<=maxLen∧(fth L 0).of.size<=maxLen):=aA0 (by
  obtain⟨_,_,-,-,-,h1,h2,-⟩:=hF0;exact⟨h1,h2⟩)
 have HCC:=aA0 hcc;have HH0:Hid (jh L 0=false∧jn L 0=[]):=aA0 ⟨rfl,rfl⟩;have HHS:Hid (∀k,jh L (k+1)=(jh L k||(fth L k).hidden)∧jn L (k+1)=if(fth L k).needs.length=0 then jn L k else(fth L k).needs):=aA0 fun k=>⟨rfl,rfl⟩
 obtain⟨f0,hf0⟩:∃x,x=fth L 0:=⟨_,rfl⟩;rw[<-hf0] at HJS HF0;have HC0:Hid (∀W,Below w.heap.size w W->W.cell? ⟨fb,fo,none⟩=some (.string f0.name)∧W.cell? ⟨fb,fo+1,none⟩=some (.string f0.of)∧W.cell? ⟨fb,fo+2,none⟩=some (.bool f0.list)∧W.cell? ⟨fb,fo+3,none⟩=some (.bool f0.must)):=aA0 fun W hW=>by
  obtain⟨x0,x1,x2,x3,-⟩:=HCC.out W hW;rw[<-hf0] at x0 x1 x2 x3;simp only[Nat.zero_mul,Nat.add_zero] at x0 x1 x2 x3;exact⟨x0,x1,x2,x3⟩
 obtain⟨ll,HLL⟩:∃x,Hid (x=L.length):=⟨_,aA0 rfl⟩;rw[<-HLL.out] at hL h64 HJS ⊢;rw[HJS.out];have hL0:(0:Int)<(ll:Int):=by omega
 clear hR hB hnl hF0 hcc hf0 HCC;have b1:=aA2 w (.cells #[.string ⟨#[]⟩,.string ⟨#[]⟩,.bool false,.bool false,.bool false,.bool false,.bool false,.slice none 0 0] 80);have n1:=aA3 (w:=w) (N:=w.heap.size) #[.string ⟨#[]⟩,.string ⟨#[]⟩,.bool false,.bool false,.bool false,.bool false,.bool false,.slice none 0 0] 80 rfl;have z1:(w.alloc (.cells #[.string ⟨#[]⟩,.string ⟨#[]⟩,.bool false,.bool false,.bool false,.bool false,.bool false,.slice none 0 0] 80)).heap.size=w.heap.size+1:=by simp
 go_enter Tryz.func118,Tryz.ntmps118
 go_upto_region 1 with fail
 generalize w.alloc (.cells #[.string ⟨#[]⟩,.string ⟨#[]⟩,.bool false,.bool false,.bool false,.bool false,.bool false,.slice none 0 0] 80)=w1 at*;have HB1:=aA0 b1;have HN1:=aA0 n1;have HZ1:=aA0 z1;have HSS:Hid (∀W,Below w1.heap.size w1 W->W.cell? ⟨fb,fo,none⟩=some (.string f0.name)∧W.cell? ⟨fb,fo+1,none⟩=some (.string f0.of)∧W.cell? ⟨fb,fo+2,none⟩=some (.bool f0.list)∧W.cell? ⟨fb,fo+3,none⟩=some (.bool f0.must)):=aA0 fun W hW=>HC0.out W (HB1.out.trans (hW.mono HB1.out.size));have HST:Hid (∀W,Below w1.heap.size w1 W->∀g,w1.heap.size<=g->((((((((W.setCell ⟨g,0,none⟩ (.string f0.name)).setCell ⟨g,1,none⟩ (.string f0.of)).setCell ⟨g,2,none⟩ (.bool f0.list)).setCell ⟨g,3,none⟩ (.bool f0.must)).setCell ⟨g,4,none⟩ (.bool false)).setCell ⟨g,5,none⟩ (.bool false)).setCell ⟨g,6,none⟩ (.bool false)).setCell ⟨g,7,none⟩ (.slice none 0 0)).cell? ⟨fb,fo,none⟩=some (.string f0.name)∧((((((((W.setCell ⟨g,0,none⟩ (.string f0.name)).setCell ⟨g,1,none⟩ (.string f0.of)).setCell ⟨g,2,none⟩ (.bool f0.list)).setCell ⟨g,3,none⟩ (.bool f0.must)).setCell ⟨g,4,none⟩ (.bool false)).setCell ⟨g,5,none⟩ (.bool false)).setCell ⟨g,6,none⟩ (.bool false)).setCell ⟨g,7,none⟩ (.slice none 0 0)).cell? ⟨fb,fo+1,none⟩=some (.string f0.of)∧((((((((W.setCell ⟨g,0,none⟩ (.string f0.name)).setCell ⟨g,1,none⟩ (.string f0.of)).setCell ⟨g,2,none⟩ (.bool f0.list)).setCell ⟨g,3,none⟩ (.bool f0.must)).setCell ⟨g,4,none⟩ (.bool false)).setCell ⟨g,5,none⟩ (.bool false)).setCell ⟨g,6,none⟩ (.bool false)).setCell ⟨g,7,none⟩ (.slice none 0 0)).cell? ⟨fb,fo+2,none⟩=some (.bool f0.list)∧((((((((W.setCell ⟨g,0,none⟩ (.string f0.name)).setCell ⟨g,1,none⟩ (.string f0.of)).setCell ⟨g,2,none⟩ (.bool f0.list)).setCell ⟨g,3,none⟩ (.bool f0.must)).setCell ⟨g,4,none⟩ (.bool false)).setCell ⟨g,5,none⟩ (.bool false)).setCell ⟨g,6,none⟩ (.bool false)).setCell ⟨g,7,none⟩ (.slice none 0 0)).cell? ⟨fb,fo+3,none⟩=some (.bool f0.must)):=aA0 fun W hW g hg=>HSS.out _ (aAH hW hg _ _ _ _ _ _ _ _);clear b1 n1 z1
 have bD:Below w1.heap.size w1 w1.drew:=(Below.refl _ _).drew;refine wp_region_held_drew (S:=(fun w'=>w'.cell? ⟨fb,fo,none⟩=some (.string f0.name)∧w'.cell? ⟨fb,fo+1,none⟩=some (.string f0.of)∧w'.cell? ⟨fb,fo+2,none⟩=some (.bool f0.list)∧w'.cell? ⟨fb,fo+3,none⟩=some (.bool f0.must))) (by kernel_rfl) (HSS.out _ bD) (fun hHeld=>?_)
 generalize w1.drew=wD at*;refine tkH 0 hHeld ?_;refine tkH 1 hHeld ?_;refine tkH 2 hHeld ?_;refine tkH 3 hHeld ?_;refine tkH 4 hHeld ?_;refine tkH 5 hHeld ?_;refine tkH 6 hHeld ?_;refine tkH 7 hHeld ?_;refine tkH 8 hHeld ?_;refine tkH 9 hHeld ?_;refine tkH 10 hHeld ?_;refine tkH 11 hHeld ?_;refine tkH 12 hHeld ?_;refine tkH 13 hHeld ?_;refine tkH 14 hHeld ?_;refine tkH 15 hHeld ?_;refine tkH 16 hHeld ?_;refine rdyH [17] ?_;refine rcH (fun K hK=>?_) AllReadyH.nil;go_simp
 have bE:=aA2 wD (.cells #[.string ⟨#[]⟩,.string ⟨#[]⟩,.bool false,.bool false,.bool false,.bool false,.bool false,.slice none 0 0] 80);obtain⟨gE,hgE⟩:∃g,g=wD.heap.size:=⟨_,rfl⟩;have nE:=aA3 (w:=wD) (N:=gE) #[.string ⟨#[]⟩,.string ⟨#[]⟩,.bool false,.bool false,.bool false,.bool false,.bool false,.slice none 0 0] 80 hgE.symm;have HZE:Hid (gE<(wD.alloc (.cells #[.string ⟨#[]⟩,.string ⟨#[]⟩,.bool false,.bool false,.bool false,.bool false,.bool false,.slice none 0 0] 80)).heap.size∧w1.heap.size<=gE):=aA0 (by have:=bD.size;simp;omega)
 have bD:=bD.trans (bE.mono bD.size);refine hK.out _ _ (HSS.out _ bD) (fun hHeld=>?_);clear hK K;try simp only[Act.put,sIA,sI0,sIS]
 rw[<-hgE];generalize wD.alloc (.cells #[.string ⟨#[]⟩,.string ⟨#[]⟩,.bool false,.bool false,.bool false,.bool false,.bool false,.slice none 0 0] 80)=wE at*;clear hgE bE;refine rdyH [18] ?_;refine rcH (fun K hK=>?_) AllReadyH.nil;have HNE:=aA0 nE;have HBE:=aA0 bD;obtain⟨c0,z0⟩:=aA1 nE 0 (by simp)
 obtain⟨c1,z1⟩:=aA1 nE 1 (by simp)
 obtain⟨c2,z2⟩:=aA1 nE 2 (by simp)
 obtain⟨c3,z3⟩:=aA1 nE 3 (by simp)
 obtain⟨c4,z4⟩:=aA1 nE 4 (by simp)
 obtain⟨c5,z5⟩:=aA1 nE 5 (by simp)
 obtain⟨c6,z6⟩:=aA1 nE 6 (by simp)
 obtain⟨c7,z7⟩:=aA1 nE 7 (by simp)
 simp only[List.getElem_toArray,List.getElem_cons_succ,List.getElem_cons_zero] at c0 c1 c2 c3 c4 c5 c6 c7;clear nE;go_simp
 clear c0 c1 c2 c3 c4 c5 c6 c7 z0 z1 z2 z3 z4 z5 z6 z7;refine hK.out _ _ (HST.out _ HBE.out gE HZE.out.2) (fun hHeld=>?_);clear hK K;try simp only[Act.put,sIA,sI0,sIS]
 refine wpAnyH_done (by kernel_rfl) ?_ _
 have hb2:=aFM HNE.out (.string f0.name) (.string f0.of) (.bool f0.list) (.bool f0.must) (.bool false) (.bool false) (.bool false) (.slice none 0 0);have HB2:Hid (Below (w.heap.size+1) w1 ((((((((wE.setCell ⟨gE,0,none⟩ (.string f0.name)).setCell ⟨gE,1,none⟩ (.string f0.of)).setCell ⟨gE,2,none⟩ (.bool f0.list)).setCell ⟨gE,3,none⟩ (.bool f0.must)).setCell ⟨gE,4,none⟩ (.bool false)).setCell ⟨gE,5,none⟩ (.bool false)).setCell ⟨gE,6,none⟩ (.bool false)).setCell ⟨gE,7,none⟩ (.slice none 0 0))):=aA0 ((aAH HBE.out HZE.out.2 _ _ _ _ _ _ _ _).mono (by have:=HZ1.out;omega))
 have HZ2:Hid (gE<((((((((wE.setCell ⟨gE,0,none⟩ (.string f0.name)).setCell ⟨gE,1,none⟩ (.string f0.of)).setCell ⟨gE,2,none⟩ (.bool f0.list)).setCell ⟨gE,3,none⟩ (.bool f0.must)).setCell ⟨gE,4,none⟩ (.bool false)).setCell ⟨gE,5,none⟩ (.bool false)).setCell ⟨gE,6,none⟩ (.bool false)).setCell ⟨gE,7,none⟩ (.slice none 0 0)).heap.size):=aA0 (by rw[aJ3];exact HZE.out.1)
 have hgE:=HZE.out.2;generalize ((((((((wE.setCell ⟨gE,0,none⟩ (.string f0.name)).setCell ⟨gE,1,none⟩ (.string f0.of)).setCell ⟨gE,2,none⟩ (.bool f0.list)).setCell ⟨gE,3,none⟩ (.bool f0.must)).setCell ⟨gE,4,none⟩ (.bool false)).setCell ⟨gE,5,none⟩ (.bool false)).setCell ⟨gE,6,none⟩ (.bool false)).setCell ⟨gE,7,none⟩ (.slice none 0 0))=w2 at*;have HJ2:Hid (JB gE f0 false [] w2):=aA0 ⟨none,0,hb2,⟨fun h=>absurd rfl h,fun i=>by simp[nth,maxLen],by simp[maxLen]⟩,Nat.le_refl _,by simp⟩
 have hz1:=HZ1.out;clear hb2 HNE HBE HZE HST bD;go_wp2_with fail
 go_loopw [25] (fun y wr=>∃k:Nat,k<=ll∧y=.int .i64 k∧Hid (JB gE f0 (jh L k) (jn L k) wr∧Below (w.heap.size+1) w1 wr)) (fun y _=>ll- (intOf y).toNat)
 case atStart=>exact⟨0,Nat.zero_le _,rfl,aA0 ⟨by rw[HH0.out.1,HH0.out.2];exact HJ2.out,HB2.out⟩⟩
 case round=>
 obtain⟨k,hk,rfl,HK⟩:=hrel;obtain⟨w3,rfl⟩:∃x,x=wr:=⟨wr,rfl⟩;by_cases hlt:k<ll
 ·have hki:(k:Int)<(ll:Int):=by omega
  have hkL:k<L.length:=by rw[<-HLL.out];exact hlt
  obtain⟨fb',fo',na,nc,he,hFR,hcc⟩:=HR.out.at HBL.out k hkL;simp only[Option.some.injEq,Addr.mk.injEq,and_true] at he;obtain⟨rfl,rfl⟩:=he;have HW:Hid (∀W,Below (w.heap.size+1) w1 W->Below w.heap.size w W):=aA0 fun W hW=>HB1.out.trans (hW.mono (by omega))
  obtain⟨x0,x1,x2,x3,x4,x5,x6,x7⟩:=hcc w3 (HW.out w3 HK.out.2);obtain⟨hs1,hs2⟩:=HHS.out k;have HNK:=aA0 (HNL.out k hkL);have HFR:=aA0 hFR;clear hcc hFR;generalize fth L k=f at*;obtain⟨nl,HNL2⟩:∃x,Hid (x=f.needs.length):=⟨_,aA0 rfl⟩;rw[<-HNL2.out] at x7 hs2;obtain⟨hh,HHH⟩:∃x,Hid (x=f.hidden):=⟨_,aA0 rfl⟩;rw[<-HHH.out] at x5 hs1;have HS1:=aA0 hs1;have HS2:=aA0 hs2;have b4:=aA2 w3 (.cells #[.string f.name,.string f.of,.bool f.list,.bool f.must,.bool f.far,.bool hh,.bool f.shared,.slice na nl nc] 80);have n4:=aA3 (w:=w3) (N:=w3.heap.size) #[.string f.name,.string f.of,.bool f.list,.bool f.must,.bool f.far,.bool hh,.bool f.shared,.slice na nl nc] 80 rfl;have z3:=HK.out.2.size;have z4:w3.heap.size<(w3.alloc (.cells #[.string f.name,.string f.of,.bool f.list,.bool f.must,.bool f.far,.bool hh,.bool f.shared,.slice na nl nc] 80)).heap.size:=by simp
  have HJ4:=aA0 (HK.out.1.below b4);have HB4:Hid (Below (w.heap.size+1) w1 (w3.alloc (.cells #[.string f.name,.string f.of,.bool f.list,.bool f.must,.bool f.far,.bool hh,.bool f.shared,.slice na nl nc] 80))):=aA0 (HK.out.2.trans (b4.mono (by omega)))
  clear b4 hs1 hs2;go_upto_region 5 with fail
  generalize w3.alloc (.cells #[.string f.name,.string f.of,.bool f.list,.bool f.must,.bool f.far,.bool hh,.bool f.shared,.slice na nl nc] 80)=w4 at*;clear x0 x1 x2 x3 x4 x5 x6 x7;generalize jh L k=h0 at*;generalize jn L k=ns at*;obtain⟨ma,mc,hb4,hS4,hmc,hmn⟩:=HJ4.out;have hoe:gE≠w3.heap.size:=by
   obtain⟨_,_,hb3,-⟩:=HK.out.1;have:=(Array.getElem?_eq_some_iff.1 hb3).1;omega
  have HS4:=aA0 hS4;have HB44:=aA0 hb4;have HN4:=aA0 n4;obtain⟨o5,y5⟩:=aA1 hb4 5 (by simp)
  have e5:=(aA1 n4 5 (by simp)).1
  simp only[List.getElem_toArray,List.getElem_cons_succ,List.getElem_cons_zero] at o5 e5;have hset5:∀q:Bool,(w4.setCell ⟨gE,5,none⟩ (.bool q)).heap[gE]?=some (.cells #[.string f0.name,.string f0.of,.bool f0.list,.bool f0.must,.bool false,.bool q,.bool false,.slice ma ns.length mc] 80 (0,0)):=fun q=>by simpa using aAC hb4 5 (.bool q)
  have HJ5:Hid (∀q:Bool,JB gE f0 q ns (w4.setCell ⟨gE,5,none⟩ (.bool q))∧Below (w.heap.size+1) w1 (w4.setCell ⟨gE,5,none⟩ (.bool q))∧(w4.setCell ⟨gE,5,none⟩ (.bool q)).cell? ⟨w3.heap.size,7,none⟩=some (.slice na nl nc)):=aA0 fun q=>by
   refine⟨⟨ma,mc,hset5 q,(HS4.out.mono fun b hb=>Below.heap_setCell _ _ _ _ (by show b≠gE;omega)).sub fun b hb=>⟨hb.1,by simpa using hb.2⟩,hmc,hmn⟩,HB4.out.setCell (p:=⟨gE,5,none⟩) (by show _<=gE;omega) _,?_⟩
   exact(aA1 ((Below.heap_setCell _ _ _ _ (by show w3.heap.size≠gE;omega)).trans HN4.out) 7 (by simp)).1
  clear hb4 hS4 n4 hset5;obtain⟨h1,HH1⟩:∃x,Hid (x=(h0||hh)):=⟨_,aA0 rfl⟩;have HS5:Hid (jh L (k+1)=h1):=aA0 (by rw[HS1.out,HH1.out])
  cases h0;case' false=>
   have hq:=aA0 (show h1=hh by rw[HH1.out];rfl)
   obtain⟨HJ6,HB6,w7c⟩:=HJ5.out hh;replace HJ6:=aA0 HJ6
   replace HB6:=aA0 HB6
   go_upto_region 6 with fail
   generalize w4.setCell ⟨gE,5,none⟩ (.bool hh)=w5 at*;rw[<-hq.out] at HJ6;clear o5 y5 e5 HH1 HJ5 hq
  case' true=>
   have hq:=aA0 (show h1=true by rw[HH1.out];rfl)
   obtain⟨HJ6,HB6,w7c⟩:=HJ5.out true;replace HJ6:=aA0 HJ6
   replace HB6:=aA0 HB6
   go_upto_region 6 with fail
   generalize w4.setCell ⟨gE,5,none⟩ (.bool true)=w5 at*;rw[<-hq.out] at HJ6;clear o5 y5 e5 HH1 HJ5 hq
  all_goals
   by_cases hn0:nl=0
   ·have hn0i:¬(0:Int)<(nl:Int):=by omega
    have HFIN:=aA0 (And.intro HJ6.out HB6.out);rw[<-HS5.out] at HFIN;have HS6:Hid (jn L (k+1)=ns):=aA0 (by rw[HS2.out,if_pos hn0])
    go_wp2_with fail
    exact⟨⟨k+1,by omega,by go_num,aA0 (by rw[HS6.out];exact HFIN.out)⟩,by simp[intOf];omega⟩
   ·have hn0i:(0:Int)<(nl:Int):=by omega
    have HS6:Hid (jn L (k+1)=f.needs):=aA0 (by rw[HS2.out,if_neg hn0])
    have HCT:Hid (Calls Tryz.prog 57 #[.slice na nl nc] w5 fun e w'=>∃(a':Option Addr) (c':Nat),e=.returned (.slice a' nl c')∧nl<=c'∧Below w5.heap.size w5 w'∧Strs w' (fun b=>w5.heap.size<=b∧b<w'.heap.size) f.needs a'):=aA0 (by
     obtain⟨na',nc',e,hS,-⟩:=HFR.out;simp only[Value.agg.injEq,Array.mk.injEq,List.cons.injEq,Value.slice.injEq,true_and,and_true] at e;obtain⟨rfl,-⟩:=e;have hbw:=HW.out w5 HB6.out;have hBL:=HBL.out;have hC:=aK5 f.needs na nc w5 _ (hS.mono (w':=w5) fun b hb=>hbw.block b (by have hb:b<B:=hb;omega)) (by have:=HNK.out;omega)
     rw[<-HNL2.out] at hC;refine hC.mono fun e w' hE=>?_;obtain⟨a',c',h1,h2,h3,h4,-⟩:=hE;exact⟨a',c',h1,h2,h3,h4⟩)
    go_wp2_with fail
    refine HCT.out.mono ?_;rintro e w6 ⟨a',c',rfl,hc',b6,hS6⟩;obtain⟨qa,qc,hb6,-,-,-⟩:=HJ6.out;have hg5:=(Array.getElem?_eq_some_iff.1 hb6).1;have hb66:=(b6.block gE hg5).trans hb6;obtain⟨o7,y7⟩:=aA1 hb66 7 (by simp)
    simp only[List.getElem_toArray,List.getElem_cons_succ,List.getElem_cons_zero] at o7;have z5:=HB6.out.size;have HFIN:Hid (JB gE f0 h1 f.needs (w6.setCell ⟨gE,7,none⟩ (.slice a' nl c'))∧Below (w.heap.size+1) w1 (w6.setCell ⟨gE,7,none⟩ (.slice a' nl c'))):=aA0 (by
     refine⟨⟨a',c',by rw[<-HNL2.out];simpa using aAC hb66 7 (.slice a' nl c'),(hS6.mono fun b hb=>Below.heap_setCell _ _ _ _ (by show b≠gE;omega)).sub fun b hb=>⟨by omega,by simpa using hb.2⟩,by rw[<-HNL2.out];exact hc',HNK.out⟩,?_⟩
     exact(HB6.out.trans (b6.mono (by omega))).setCell (p:=⟨gE,7,none⟩) (by show _<=gE;omega) _)
    rw[<-HS5.out,<-HS6.out] at HFIN;clear hb6 hb66 b6 hS6 w7c;go_wp2_with fail
    exact⟨⟨k+1,by omega,by go_num,HFIN⟩,by simp[intOf];omega⟩
 ·have hki:¬(k:Int)<(ll:Int):=by omega
  have e:k=ll:=by omega
  subst e;obtain⟨h0,HG0⟩:∃x,Hid (x=jh L k):=⟨_,aA0 rfl⟩;obtain⟨ns,HG1⟩:∃x,Hid (x=jn L k):=⟨_,aA0 rfl⟩;rw[<-HG0.out,<-HG1.out] at HK;obtain⟨ma,mc,hb4,hS4,hmc,hmn⟩:=HK.out.1;have hr:=(HK.out.2.block w.heap.size (by omega)).trans HN1.out
  have HRR:=aA0 (aFM hr (.string f0.name) (.string f0.of) (.bool f0.list) (.bool f0.must) (.bool false) (.bool h0) (.bool false) (.slice ma ns.length mc));have d0:=(aA1 hb4 0 (by simp)).1
  have d1:=(aA1 hb4 1 (by simp)).1
  have d2:=(aA1 hb4 2 (by simp)).1
  have d3:=(aA1 hb4 3 (by simp)).1
  have d4:=(aA1 hb4 4 (by simp)).1
  have d5:=(aA1 hb4 5 (by simp)).1
  have d6:=(aA1 hb4 6 (by simp)).1
  have d7:=(aA1 hb4 7 (by simp)).1
  obtain⟨o0,y0⟩:=aA1 hr 0 (by simp)
  obtain⟨o1,y1⟩:=aA1 hr 1 (by simp)
  obtain⟨o2,y2⟩:=aA1 hr 2 (by simp)
  obtain⟨o3,y3⟩:=aA1 hr 3 (by simp)
  obtain⟨o4,y4⟩:=aA1 hr 4 (by simp)
  obtain⟨o5,y5⟩:=aA1 hr 5 (by simp)
  obtain⟨o6,y6⟩:=aA1 hr 6 (by simp)
  obtain⟨o7,y7⟩:=aA1 hr 7 (by simp)
  simp only[List.getElem_toArray,List.getElem_cons_succ,List.getElem_cons_zero] at d0 d1 d2 d3 d4 d5 d6 d7 o0 o1 o2 o3 o4 o5 o6 o7;have HF:Hid (FRep ((((((((w3.setCell ⟨w.heap.size,0,none⟩ (.string f0.name)).setCell ⟨w.heap.size,1,none⟩ (.string f0.of)).setCell ⟨w.heap.size,2,none⟩ (.bool f0.list)).setCell ⟨w.heap.size,3,none⟩ (.bool f0.must)).setCell ⟨w.heap.size,4,none⟩ (.bool false)).setCell ⟨w.heap.size,5,none⟩ (.bool h0)).setCell ⟨w.heap.size,6,none⟩ (.bool false)).setCell ⟨w.heap.size,7,none⟩ (.slice ma ns.length mc)) (fun b=>w.heap.size<=b∧b<((((((((w3.setCell ⟨w.heap.size,0,none⟩ (.string f0.name)).setCell ⟨w.heap.size,1,none⟩ (.string f0.of)).setCell ⟨w.heap.size,2,none⟩ (.bool f0.list)).setCell ⟨w.heap.size,3,none⟩ (.bool f0.must)).setCell ⟨w.heap.size,4,none⟩ (.bool false)).setCell ⟨w.heap.size,5,none⟩ (.bool h0)).setCell ⟨w.heap.size,6,none⟩ (.bool false)).setCell ⟨w.heap.size,7,none⟩ (.slice ma ns.length mc)).heap.size) ⟨f0.name,f0.of,f0.list,f0.must,false,h0,false,ns⟩ (.agg (fcl ⟨f0.name,f0.of,f0.list,f0.must,false,h0,false,ns⟩ ma mc).toArray)∧Below w.heap.size w ((((((((w3.setCell ⟨w.heap.size,0,none⟩ (.string f0.name)).setCell ⟨w.heap.size,1,none⟩ (.string f0.of)).setCell ⟨w.heap.size,2,none⟩ (.bool f0.list)).setCell ⟨w.heap.size,3,none⟩ (.bool f0.must)).setCell ⟨w.heap.size,4,none⟩ (.bool false)).setCell ⟨w.heap.size,5,none⟩ (.bool h0)).setCell ⟨w.heap.size,6,none⟩ (.bool false)).setCell ⟨w.heap.size,7,none⟩ (.slice ma ns.length mc))):=aA0 (by
   refine⟨⟨ma,mc,rfl,(hS4.mono fun b hb=>?_).sub fun b hb=>⟨by omega,by rw[aJ3];exact hb.2⟩,hmc,HF0.out.1,HF0.out.2,by show 16*ns.length<=_;omega⟩,aAH (HB1.out.trans (HK.out.2.mono (by omega))) (Nat.le_refl _) _ _ _ _ _ _ _ _⟩
   rw[aCZ (by omega)])
  clear hb4 hS4 hr;go_wp2_with fail
  have e0:=(aA1 HRR.out 0 (by simp)).1
  have e1:=(aA1 HRR.out 1 (by simp)).1
  have e2:=(aA1 HRR.out 2 (by simp)).1
  have e3:=(aA1 HRR.out 3 (by simp)).1
  have e4:=(aA1 HRR.out 4 (by simp)).1
  have e5:=(aA1 HRR.out 5 (by simp)).1
  have e6:=(aA1 HRR.out 6 (by simp)).1
  have e7:=(aA1 HRR.out 7 (by simp)).1
  exact bodyPost_ret (aSN _ _ w.heap.size (.string f0.name) (.string f0.of) (.bool f0.list) (.bool f0.must) (.bool false) (.bool h0) (.bool false) (.slice ma ns.length mc) rfl e0 e1 e2 e3 e4 e5 e6 e7) rfl (by rw[<-HG0.out,<-HG1.out];exact⟨ma,mc,rfl,HF.out.2,HF.out.1⟩)
structure AlSt(X:World)(M:Nat)(nm:ByteArray)(L:List T)(wr:World):Prop where
 ex:∃ov:Value,wr.heap[M]?=some (.cells #[.string nm,ov] 46 (0,0))∧aCK wr (M+1) (fun _=>False) L ov
 bel:Below M X wr
 lt:M<wr.heap.size
theorem AlSt.keep{X wr wy:World}{M:Nat}{nm:ByteArray}{L:List T}(h:AlSt X M nm L wr)(hb:Below wr.heap.size wr wy):AlSt X M nm L wy:=by
 obtain⟨ov,h1,h2⟩:=h.ex;have:=h.lt;exact⟨⟨ov,(hb.block M this).trans h1,h2.keep (fun b hb=>hb.elim) hb⟩,h.bel.trans (hb.mono (by omega)),by have:=hb.size;omega⟩
theorem AlSt.push{X wx wF:World}{M:Nat}{nm:ByteArray}{L:List T}{ov:Value}(h1:wx.heap[M]?=some (.cells #[.string nm,ov] 46 (0,0)))(h2:aCK wx (M+1) (fun _=>False) L ov)(hb:Below M X wx)(hl:M<wx.heap.size)
  (t:T) (fa:Option Addr) (fc:Nat) (lo:Nat) (hF:aBJ wx (fun b=>lo<=b∧b<wx.heap.size) t.fields fa) (hlo:M<lo) (hov:∀b,ov.ownBlock=some b->b<lo) (hfc:t.fields.length<=fc) (hs1:t.name.size<=maxLen) (hs2:t.key.size<=maxLen)
  {v':Value} {xs:List Value} (hxs:∃C,wx.ownsRow (M+1) 96 3 ov L.length (aDG C L.length)∧xs=aDG C L.length∧∀i,i<L.length->TRep wx (Off (fun _=>False) (M+1) wx ov) (tth L i) (.agg #[C i 0,C i 1,C i 2]))
  (ho:wF.ownsRow (M+1) 96 3 v' (L.length+1) (xs++[.string t.name,.string t.key,.slice fa t.fields.length fc])) (hg:wx.grownBy wF ov.ownBlock) (hor:v'.ownBlock=ov.ownBlock∨v'.ownBlock=some wx.heap.size):
  AlSt X M nm (L++[t]) (wF.setCell ⟨M,1,none⟩ v'):=by
 obtain⟨C,hr,rfl,hT⟩:=hxs;have hMo:∀b,ov.ownBlock=some b->M+1<=b:=fun b hb=>(hr.lt b hb).1;have hk:∀b,b<wx.heap.size->ov.ownBlock≠some b->wF.heap[b]?=wx.heap[b]?:=fun b hb hn=>hg.block b hb fun e=>hn e.symm;have hP:=aCK.push (P:=fun _=>False) hT (fun b hb=>hb.elim) (fun b hb=>hb.elim) t (.string t.name) (.string t.key) (.slice fa t.fields.length fc) ⟨fa,fc,rfl,hF.sub fun b hb=>Or.inr ⟨by omega,hb.2,fun e=>by have:=hov b e;omega⟩,hfc,hs1,hs2⟩ ho hk hg.size (fun b hb=>by
  rcases hor with hor| hor
  ·rw[hor] at hb;exact Or.inl hb
  ·rw[hor] at hb;exact Or.inr (by have:=Option.some.inj hb;omega)) hMo
 have hM:wF.heap[M]?=some (.cells #[.string nm,ov] 46 (0,0)):=(hk M hl fun e=>by have:=hMo M e;omega).trans h1
 refine⟨⟨v',by simpa using aAC hM 1 v',hP.keepB (fun b hb=>Below.heap_setCell _ _ _ _ (by show b≠M;rcases hb with hb| hb;exact hb.elim;omega)) (by simp)⟩,?_,?_⟩
 ·exact((hb.grown hg (Nat.le_of_lt hl) fun k hk=>by have:=hMo k hk;omega)).setCell (p:=⟨M,1,none⟩) (Nat.le_refl _) _
 ·have:=hg.size;simp;omega
theorem AlSt.start(w:World)(nm:ByteArray)(M:Nat)(hM:w.heap.size=M):AlSt w M nm [] (w.alloc (.cells #[.string nm,.slice none 0 0] 46)):=by
 subst hM;exact⟨⟨_,aA3 _ _ rfl,aCK.nil _ _ _⟩,aA2 _ _,by simp⟩
theorem aCN.repQ{w:World}{P Q:Nat->Prop}{B:Nat}{L:List F}{xs:List Value}{a:Option Addr}{n c:Nat}(h:aCN w P L xs)(ho:w.ownsRow B 80 8 (.slice a n c) n xs)(hP:∀b,P b->Q b)(hQ:∀g,B<=g->g<w.heap.size->Q g)(hL:L.length<=1000000):n=L.length∧n<=c∧aBJ w Q L a:=by
 have hl:=ho.1;rw[h.1] at hl;have hn:n=L.length:=by omega
 subst hn;have hk:∀i,∃r:Option Addr× Nat,i<L.length->(∀j,j<8->xs[i*8+j]?=(fcl (fth L i) r.1 r.2)[j]?)∧FRep w P (fth L i) (.agg (fcl (fth L i) r.1 r.2).toArray):=fun i=>by
  by_cases hi:i<L.length
  ·obtain⟨na,nc,h1⟩:=h.2 i hi;exact⟨(na,nc),fun _=>h1⟩
  ·exact⟨(none,0),fun h=>absurd h hi⟩
 obtain⟨f,hf⟩:=Classical.skolem.1 hk;refine⟨rfl,?_,by omega,fun i j=>(fcl (fth L i) (f i).1 (f i).2).getD j undef,fun h0=>?_,fun i hi=>?_⟩
 ·rcases ho.2 with⟨-,e⟩| ⟨g,cap,cur,e,hb,hh,r⟩
  ·omega
  ·cases e;exact r.1
 ·rcases ho.2 with⟨-,e⟩| ⟨g,cap,cur,e,hb,hh,r⟩
  ·omega
  ·cases e;have hg:=ho.lt g rfl;refine⟨g,0,rfl,hQ g hg.1 hg.2,fun i hi j hj=>?_⟩;have h1:=(hf i hi).1 j hj;have h2:=ho.cellAt (i*8+j) (by omega)
   rw[show 0+i*8+j=i*8+j by omega,h2,h1]
   have hlen:(fcl (fth L i) (f i).1 (f i).2).length=8:=rfl;show _=some ((fcl (fth L i) (f i).1 (f i).2).getD j undef);rw[List.getD_eq_getElem?_getD,List.getElem?_eq_getElem (by omega)]
   rfl
 ·exact(hf i hi).2.sub hP
structure FlSt(X:World)(N:Nat)(nm key:ByteArray)(L:List F)(wr:World):Prop where
 ex:∃(v:Value) (xs:List Value),wr.heap[N]?=some (.cells #[.string nm,.string key,v] 96 (0,0))∧wr.ownsRow (N+1) 80 8 v L.length xs∧aCN wr (fun b=>N<b∧b<wr.heap.size∧v.ownBlock≠some b) L xs
 bel:Below N X wr
 lt:N<wr.heap.size
theorem FlSt.start(w:World)(nm key:ByteArray)(N:Nat)(hN:w.heap.size=N):FlSt w N nm key [] (w.alloc (.cells #[.string nm,.string key,.slice none 0 0] 96)):=by
 subst hN;exact⟨⟨_,[],aA3 _ _ rfl,World.ownsRow_nil _ _ _ _,aCN.nil _ _⟩,aA2 _ _,by simp⟩
theorem FlSt.push{X wx wF:World}{N:Nat}{nm key:ByteArray}{L:List F}{v:Value}{xs:List Value}(h1:wx.heap[N]?=some (.cells #[.string nm,.string key,v] 96 (0,0)))(hF:aCN wx (fun b=>N<b∧b<wx.heap.size∧v.ownBlock≠some b) L xs)(hb:Below N X wx)(hl:N<wx.heap.size)
  (f:F) (na:Option Addr) (nc:Nat) (lo:Nat) (hR:FRep wx (fun b=>lo<=b∧b<wx.heap.size) f (.agg (fcl f na nc).toArray)) (hlo:N<lo) (hov:∀b,v.ownBlock=some b->N<b∧b<lo)
  {v':Value} (ho:wF.ownsRow (N+1) 80 8 v' (L.length+1) (xs++fcl f na nc)) (hg:wx.grownBy wF v.ownBlock) (hor:v'.ownBlock=v.ownBlock∨v'.ownBlock=some wx.heap.size):
  FlSt X N nm key (L++[f]) (wF.setCell ⟨N,2,none⟩ v'):=by
 have hk:∀b,b<wx.heap.size->v.ownBlock≠some b->wF.heap[b]?=wx.heap[b]?:=fun b hb hn=>hg.block b hb fun e=>hn e.symm;have hM:wF.heap[N]?=some (.cells #[.string nm,.string key,v] 96 (0,0)):=(hk N hl fun e=>by have:=(hov N e).1;omega).trans h1
 have hst:∀b,b≠N->(wF.setCell ⟨N,2,none⟩ v').heap[b]?=wF.heap[b]?:=fun b hb=>Below.heap_setCell _ _ _ _ hb;have hvb:∀b,v'.ownBlock=some b->N<b∧(v.ownBlock=some b∨b=wx.heap.size):=fun b hb=>by
  rcases hor with hor| hor
  ·rw[hor] at hb;exact⟨(hov b hb).1,.inl hb⟩
  ·rw[hor] at hb;have:=Option.some.inj hb;exact⟨by omega,.inr this.symm⟩
 have hsz:=hg.size;have hC1:aCN (wF.setCell ⟨N,2,none⟩ v') (fun b=>N<b∧b<(wF.setCell ⟨N,2,none⟩ v').heap.size∧v'.ownBlock≠some b) L xs:=by
  refine⟨hF.1,fun i hi=>?_⟩;obtain⟨na',nc',q1,q2⟩:=hF.2 i hi;exact⟨na',nc',q1,(q2.mono fun b hb=>(hst b (by omega)).trans (hk b hb.2.1 hb.2.2)).sub fun b hb=>⟨hb.1,by simp;omega,fun e=>(hvb b e).2.elim hb.2.2 (by omega)⟩⟩
 have hR1:FRep (wF.setCell ⟨N,2,none⟩ v') (fun b=>N<b∧b<(wF.setCell ⟨N,2,none⟩ v').heap.size∧v'.ownBlock≠some b) f (.agg (fcl f na nc).toArray):=
  (hR.mono fun b hb=>(hst b (by omega)).trans (hk b hb.2 fun e=>by have:=(hov b e).2;omega)).sub fun b hb=>⟨by omega,by simp;omega,fun e=>(hvb b e).2.elim (fun e=>by have:=(hov b e).2;omega) (by omega)⟩
 refine⟨⟨v',xs++fcl f na nc,by simpa using aAC hM 2 v',?_,hC1.snoc hR1⟩,?_,by simp;omega⟩
 ·rw[List.length_append,List.length_singleton];exact aB2 ho fun g hg2=>hst g (by have:=(hvb g hg2).1;omega)
 ·exact((hb.grown hg (Nat.le_of_lt hl) fun k hk=>by have:=(hov k hk).1;omega)).setCell (p:=⟨N,2,none⟩) (Nat.le_refl _) _
theorem FlSt.row{X wr:World}{N:Nat}{nm key:ByteArray}{L:List F}(h:FlSt X N nm key L wr)(hL:L.length<=1000000):∃fa fc,wr.heap[N]?=some (.cells #[.string nm,.string key,.slice fa L.length fc] 96 (0,0))∧L.length<=fc∧aBJ wr (fun b=>N+1<=b∧b<wr.heap.size) L fa:=by
 obtain⟨v,xs,h1,h2,h3⟩:=h.ex;obtain⟨a,n,c,rfl⟩:=aC3 h2;have hn:n=L.length:=by
  rcases h2.2 with⟨e,e2⟩| ⟨g,cap,cur,e,-⟩
  ·cases e;omega
  ·cases e;rfl
 subst hn;obtain⟨-,hc,hs⟩:=h3.repQ h2 (Q:=fun b=>N+1<=b∧b<wr.heap.size) (fun b hb=>⟨hb.1,hb.2.1⟩) (fun g h1 h2=>⟨h1,h2⟩) hL;exact⟨a,c,h1,hc,hs⟩
def outX(X:Su)(nm:ByteArray):T:=⟨nm,aGP (X.ky nm),(X.tf nm).map fun n=>aCM (X.sd nm n)⟩
def flX(X:Su)(nm:ByteArray)(l:Nat):List F:=((X.tf nm).take l).map fun n=>aCM (X.sd nm n)
def tyX(X:Su)(k:Nat):List T:=(X.tn.take k).map (outX X)
theorem aRJ(X:Su)(nm:ByteArray)(l:Nat)(h:l<=(X.tf nm).length):(flX X nm l).length=l:=by simp[flX];omega
theorem aRK(X:Su)(k:Nat)(h:k<=X.tn.length):(tyX X k).length=k:=by simp[tyX];omega
theorem aTE(X:Su)(nm:ByteArray)(l:Nat)(h:l<(X.tf nm).length):flX X nm (l+1)=flX X nm l++[aCM (X.sd nm (nth (X.tf nm) l))]:=by
 have e:nth (X.tf nm) l=(X.tf nm)[l]:=by simp[nth,List.getD_eq_getElem?_getD,h]
 rw[flX,flX,List.take_add_one,List.getElem?_eq_getElem h,List.map_append,e];rfl
theorem aTG(X:Su)(k:Nat)(h:k<X.tn.length):tyX X (k+1)=tyX X k++[outX X (nth X.tn k)]:=by
 have e:nth X.tn k=X.tn[k]:=by simp[nth,List.getD_eq_getElem?_getD,h]
 rw[tyX,tyX,List.take_add_one,List.getElem?_eq_getElem h,List.map_append,e];rfl
end Go.Proofs.YtcebpkeiaiiphaaGreatDoor
