import Derived.Test.YtcebpkeiaiiphaaGreatDoorRA50
set_option linter.unusedSimpArgs false
set_option linter.unusedVariables false
namespace Go.Proofs.YtcebpkeiaiiphaaGreatDoor
open Go.RowKit Go.Maps Go.MapKept
theorem RcI.rebox{base N m:Nat}{c0 c1 c2 sv:Value}{st:List Sta}{wy:List (List ByteArray)}{w:World}(h:RcI base N m c0 c1 c2 st wy sv w):
  RcI base w.heap.size m c0 c1 c2 st wy sv (w.alloc (.cells #[c0,c1,c2,sv,.map (some m)] 66)):=by
 have bX:=aA2 w (.cells #[c0,c1,c2,sv,.map (some m)] 66)
 have zX:(w.alloc (.cells #[c0,c1,c2,sv,.map (some m)] 66)).heap.size=w.heap.size+1:=by simp
 obtain⟨G,hO,hG⟩:=h.map
 refine⟨⟨aA3 _ _ rfl,aAE h.b.srow bX,fun e=>?_,h.b.mM,fun e=>by have:=h.b.lm;omega,by have:=h.b.bN;have:=h.b.lN;omega,h.b.bm,by have:=h.b.lm;omega⟩,h.len,G,hO.of_block (bX.block m h.b.lm),fun i hi=>?_,hG.none⟩
 ·have:=(h.b.srow.lt _ e).2;omega
 ·obtain⟨a,c,h1,h2⟩:=hG.way i hi
  exact⟨a,c,h1,(h2.mono fun b hb=>bX.block b hb.2.1).sub fun b hb=>⟨hb.1,by have:=hb.2.1;omega,hb.2.2.1,by have:=hb.2.1;omega,hb.2.2.2.2⟩⟩
theorem aSB{w:World}{N:Nat}{T:TypeId}{a0 a1 a2 a3 a4:Value}(hb:w.heap[N]?=some (.cells #[a0,a1,a2,a3,a4] T (0,0)))(v0 v1 v2 v3 v4:Value):
  (((((w.setCell ⟨N,0,none⟩ v0).setCell ⟨N,1,none⟩ v1).setCell ⟨N,2,none⟩ v2).setCell ⟨N,3,none⟩ v3).setCell ⟨N,4,none⟩ v4).heap[N]?=some (.cells #[v0,v1,v2,v3,v4] T (0,0)):=by
 simpa using aAB (aAB (aAB (aAB (aAB hb 0 v0) 1 v1) 2 v2) 3 v3) 4 v4
theorem aV1{base N m R:Nat}{c0 c1 c2:Value}{sa:Option Addr}{sc:Nat}{w W:World}(h:RcI base N m c0 c1 c2 [⟨0,qry⟩] [[]] (.slice sa 1 sc) w)(hput:∀b,b≠R→W.heap[b]?=w.heap[b]?)(hsz:W.heap.size=w.heap.size)(hN:R≠N)(hm:R≠m)(hR:True)(hs:(Value.slice sa 1 sc).ownBlock≠some R):RcI base N m c0 c1 c2 [⟨0,qry⟩] [[]] (.slice sa 1 sc) W:=by
 obtain⟨G,hO,hG⟩:=h.map
 refine⟨⟨(hput N fun e=>hN e.symm).trans h.b.box,aB3 h.b.srow fun g e=>hput g fun e2=>hs (by rw[e,e2]),h.b.mS,h.b.mM,h.b.nM,h.b.bN,h.b.bm,by rw[hsz];exact h.b.lm⟩,h.len,G,hO.of_block (hput m fun e=>hm e.symm),fun i hi=>?_,hG.none⟩
 obtain⟨a,c,h1,h2⟩:=hG.way i hi
 have e:i=0:=by simp at hi;exact hi
 subst e
 exact⟨a,c,h1,aGQ _ _ _⟩
def aUX(a:Option Addr)(pl c:Nat)(s:ByteArray)(ta:Option Addr)(tn tc:Nat)(w:World)(e:Ending)(w':World):Prop:=∃n sa sc m N,e=.returned (.agg #[.slice a pl c,.string s,.slice ta tn tc,.slice sa n sc,.map (some m)])∧Below w.heap.size w w'∧RcI w.heap.size N m (.slice a pl c) (.string s) (.slice ta tn tc) [⟨0,qry⟩] [[]] (.slice sa n sc) w'
set_option maxRecDepth 20000 in
set_option maxHeartbeats 1600000 in
theorem aM4(a:Option Addr)(pl c:Nat)(s:ByteArray)(ta:Option Addr)(tn tc:Nat)(w:World):
  Calls Tryz.prog 30 #[.agg #[.slice a pl c,.string s,.slice ta tn tc]] w (aUX a pl c s ta tn tc w):=by
 have hmm:=@run_makeMap Tryz.prog
 go_enter Tryz.func30,Tryz.ntmps30
 have bP:=aA5 w (.cells #[.slice a pl c,.string s,.slice ta tn tc] 61) (.cells #[.slice none 0 0,.string ⟨#[]⟩,.slice none 0 0,.slice none 0 0,.map none] 66)
 have zP:((w.alloc (.cells #[.slice a pl c,.string s,.slice ta tn tc] 61)).alloc (.cells #[.slice none 0 0,.string ⟨#[]⟩,.slice none 0 0,.slice none 0 0,.map none] 66)).heap.size=w.heap.size+1+1:=by simp
 have nC:((w.alloc (.cells #[.slice a pl c,.string s,.slice ta tn tc] 61)).alloc (.cells #[.slice none 0 0,.string ⟨#[]⟩,.slice none 0 0,.slice none 0 0,.map none] 66)).heap[w.heap.size]?=some (.cells #[.slice a pl c,.string s,.slice ta tn tc] 61 (0,0)):=by
  rw[(aA2 _ _).block _ (by simp)]
  exact aA3 _ _ rfl
 have nR:((w.alloc (.cells #[.slice a pl c,.string s,.slice ta tn tc] 61)).alloc (.cells #[.slice none 0 0,.string ⟨#[]⟩,.slice none 0 0,.slice none 0 0,.map none] 66)).heap[w.heap.size+1]?=some (.cells #[.slice none 0 0,.string ⟨#[]⟩,.slice none 0 0,.slice none 0 0,.map none] 66 (0,0)):=aA3 _ _ (by simp)
 go_upto_region 1 with fail
 generalize (w.alloc (.cells #[.slice a pl c,.string s,.slice ta tn tc] 61)).alloc (.cells #[.slice none 0 0,.string ⟨#[]⟩,.slice none 0 0,.slice none 0 0,.map none] 66)=X at*
 obtain⟨q0,-⟩:=aA1 nC 0 (by simp)
 obtain⟨q1,-⟩:=aA1 nC 1 (by simp)
 obtain⟨q2,-⟩:=aA1 nC 2 (by simp)
 simp only[List.getElem_toArray,List.getElem_cons_zero,List.getElem_cons_succ] at q0 q1 q2
 have HZP:=aA0 zP
 have HBP:=aA0 bP
 have HNR:=aA0 nR
 clear zP bP nC nR
 go_upto_region 2 with fail
 clear q0 q1 q2
 have nM:((X.alloc (.map #[] 0)).alloc (.cells #[.slice a pl c,.string s,.slice ta tn tc,.slice none 0 0,.map (some X.heap.size)] 66)).heap[X.heap.size]?=some (.map #[] 0):=by
  rw[(aA2 _ _).block _ (by simp)]
  exact heap_alloc_new _ _
 have nB:((X.alloc (.map #[] 0)).alloc (.cells #[.slice a pl c,.string s,.slice ta tn tc,.slice none 0 0,.map (some X.heap.size)] 66)).heap[X.heap.size+1]?=some (.cells #[.slice a pl c,.string s,.slice ta tn tc,.slice none 0 0,.map (some X.heap.size)] 66 (0,0)):=aA3 _ _ (by simp)
 have bY:=aA5 X (.map #[] 0) (.cells #[.slice a pl c,.string s,.slice ta tn tc,.slice none 0 0,.map (some X.heap.size)] 66)
 have zY:((X.alloc (.map #[] 0)).alloc (.cells #[.slice a pl c,.string s,.slice ta tn tc,.slice none 0 0,.map (some X.heap.size)] 66)).heap.size=X.heap.size+1+1:=by simp
 generalize (X.alloc (.map #[] 0)).alloc (.cells #[.slice a pl c,.string s,.slice ta tn tc,.slice none 0 0,.map (some X.heap.size)] 66)=Y at*
 have HR0:Hid (RcI w.heap.size (X.heap.size+1) X.heap.size (.slice a pl c) (.string s) (.slice ta tn tc) [] [] (.slice none 0 0) Y):=aA0
  ⟨⟨nB,World.ownsRow_nil _ _ _ _,fun e=>(by cases e),fun e=>(by cases e),by omega,by have:=HZP.out;omega,by have:=HZP.out;omega,by omega⟩,rfl,fun _=>none,⟨#[],0,nM,by simp,by simp,by simp⟩,fun i hi=>by simp at hi,fun _ _=>rfl⟩
 have HCO:=aA0 (aOG w.heap.size (X.heap.size+1) X.heap.size (.slice a pl c) (.string s) (.slice ta tn tc) [] [] (.slice none 0 0) ⟨0,qry⟩ [] none 0 Y HR0.out (aGQ _ _ _) (by simp))
 have HBY:=aA0 bY
 have HZY:=aA0 zY
 clear nM nB bY zY
 go_upto_region 3 with(go_at_call 54;refine HCO.out.mono ?_;rintro e w2 ⟨rfl,sv,hr0,hc0,hn0⟩;have HRR:=aA0 hr0;have HCC:=aA0 hc0;have HNN:=aA0 hn0;clear hr0 hc0 hn0)
 have hr:=HRR.out
 have hc:=HCC.out
 have hn:=HNN.out
 clear HRR HCC HNN
 obtain⟨sa,sc,hsv⟩:=aGD hr.b.srow
 have hst:stC [] ⟨0,qry⟩=[⟨0,qry⟩]:=rfl
 have hwy:wyC [] [] ⟨0,qry⟩ []=[[]]:=rfl
 rw[hst,hwy] at hr
 rw[hst] at hsv
 rw[hsv] at hr
 simp only[List.length_singleton] at hr
 have HR:=aA0 hr
 have HC:Hid (w2.heap[w.heap.size+1]?=some (.cells #[.slice none 0 0,.string ⟨#[]⟩,.slice none 0 0,.slice none 0 0,.map none] 66 (0,0))∧Below w.heap.size w w2):=aA0 (by
  have h1:=HZP.out;have h2:=HBY.out.size;have h3:=HZY.out
  have hb:=HBP.out.trans (HBY.out.mono HBP.out.size)
  refine⟨(hc.block (w.heap.size+1) (by omega) (by omega) (by omega) fun e=>by cases e).trans ((HBY.out.block (w.heap.size+1) (by omega)).trans HNR.out),hc.os.trans hb.os,hc.tape.trans hb.tape,hc.output.trans hb.output,by have:=hc.size;omega,fun b hb'=>(hc.block b (by omega) (by omega) (by omega) fun e=>by cases e).trans (hb.block b hb')⟩)
 obtain⟨⟨r0,r1,r2⟩,r3,r4⟩:=hr.b.cells
 have HSO:Hid ((Value.slice sa 1 sc).ownBlock≠some (w.heap.size+1)):=aA0 fun e=>by
  rcases hn (w.heap.size+1) (by rw[hsv];exact e) with h| h
  ·cases h
  ·have h1:=HZP.out;have h2:=HZY.out;omega
 have HNE:Hid (w.heap.size+1≠X.heap.size+1∧w.heap.size+1≠X.heap.size):=aA0 (by have:=HZP.out;omega)
 clear hr hc hn hsv hst hwy HCO HR0
 obtain⟨y0,g0⟩:=aA1 HC.out.1 0 (by simp)
 obtain⟨y1,g1⟩:=aA1 HC.out.1 1 (by simp)
 obtain⟨y2,g2⟩:=aA1 HC.out.1 2 (by simp)
 obtain⟨y3,g3⟩:=aA1 HC.out.1 3 (by simp)
 obtain⟨y4,g4⟩:=aA1 HC.out.1 4 (by simp)
 simp only[List.getElem_toArray,List.getElem_cons_zero,List.getElem_cons_succ] at y0 y1 y2 y3 y4
 have HR5:=aA0 (aSB HC.out.1 (.slice a pl c) (.string s) (.slice ta tn tc) (.slice sa 1 sc) (.map (some X.heap.size)))
 have HFIN:Hid (aUX a pl c s ta tn tc w (.returned (.agg #[.slice a pl c,.string s,.slice ta tn tc,.slice sa 1 sc,.map (some X.heap.size)])) (((((w2.setCell ⟨w.heap.size+1,0,none⟩ (.slice a pl c)).setCell ⟨w.heap.size+1,1,none⟩ (.string s)).setCell ⟨w.heap.size+1,2,none⟩ (.slice ta tn tc)).setCell ⟨w.heap.size+1,3,none⟩ (.slice sa 1 sc)).setCell ⟨w.heap.size+1,4,none⟩ (.map (some X.heap.size)))):=aA0 (by
  have hput:∀b,b≠w.heap.size+1→(((((w2.setCell ⟨w.heap.size+1,0,none⟩ (.slice a pl c)).setCell ⟨w.heap.size+1,1,none⟩ (.string s)).setCell ⟨w.heap.size+1,2,none⟩ (.slice ta tn tc)).setCell ⟨w.heap.size+1,3,none⟩ (.slice sa 1 sc)).setCell ⟨w.heap.size+1,4,none⟩ (.map (some X.heap.size))).heap[b]?=w2.heap[b]?:=fun b hb=>aC6 _ b hb [.slice a pl c,.string s,.slice ta tn tc,.slice sa 1 sc,.map (some X.heap.size)] w2 0
  have hsz:(((((w2.setCell ⟨w.heap.size+1,0,none⟩ (.slice a pl c)).setCell ⟨w.heap.size+1,1,none⟩ (.string s)).setCell ⟨w.heap.size+1,2,none⟩ (.slice ta tn tc)).setCell ⟨w.heap.size+1,3,none⟩ (.slice sa 1 sc)).setCell ⟨w.heap.size+1,4,none⟩ (.map (some X.heap.size))).heap.size=w2.heap.size:=aCD _ [.slice a pl c,.string s,.slice ta tn tc,.slice sa 1 sc,.map (some X.heap.size)] w2 0
  have hbl:Below w.heap.size w (((((w2.setCell ⟨w.heap.size+1,0,none⟩ (.slice a pl c)).setCell ⟨w.heap.size+1,1,none⟩ (.string s)).setCell ⟨w.heap.size+1,2,none⟩ (.slice ta tn tc)).setCell ⟨w.heap.size+1,3,none⟩ (.slice sa 1 sc)).setCell ⟨w.heap.size+1,4,none⟩ (.map (some X.heap.size))):=aC7 (by omega) [.slice a pl c,.string s,.slice ta tn tc,.slice sa 1 sc,.map (some X.heap.size)] w2 0 HC.out.2
  refine⟨1,sa,sc,X.heap.size,X.heap.size+1,rfl,hbl,?_⟩
  exact aV1 HR.out hput hsz HNE.out.1 HNE.out.2 trivial HSO.out)
 go_wp2_with fail
 have h5:=HR5.out
 have hres:=fun tmps h2=>aTK _ tmps (w.heap.size+1) _ _ _ _ _ h2 h5
 refine bodyPost_ret (hres _ rfl) rfl ?_
 exact HFIN.out
theorem aND(W:World)(wa:Option Addr)(n k:Nat)(ans:Bool)(lb:Nat):Calls Tryz.prog 32 (#[.slice wa n k,.bool ans]++#[]) W (aR2 false lb wa n k ans W):=by
 have e:(#[.slice wa n k,.bool ans]++#[]:Array Value)=#[.slice wa n k,.bool ans]:=by simp
 rw[e]
 go_enter Tryz.func32,Tryz.ntmps32
 go_wp2_with fail
 go_ret
 exact⟨fun h=>(by cases h.1),fun _=>⟨rfl,rfl⟩⟩
theorem aU3(args:Array Value)(W:World):Sem.run Tryz.prog (callFunc 32 args) W=Result.ok (Next.enter 32 args) W:=by kernel_rfl
def aRQ(w w':World)(ss:List Sta)(ra:Option Addr):Prop:=aFU w' (fun b=>w.heap.size≤b∧b<w'.heap.size) ss ra∧(0<ss.length→∃b,ra=some ⟨b,0,none⟩∧w.heap.size≤b∧b<w'.heap.size∧WSs w' b 0 ss.length)
theorem aRA{w w':World}{base:Nat}{ss:List Sta}{ra:Option Addr}{rc:Nat}(h:w'.ownsRow base 72 2 (.slice ra ss.length rc) ss.length (aDH ss))(hb:w.heap.size≤base):aRQ w w' ss ra:=by
 obtain⟨-,-,hS⟩:=aF2 h
 refine⟨hS.sub fun b hb'=>⟨by have:=hb'.1;omega,hb'.2⟩,fun hn=>?_⟩
 rcases h.2 with⟨e,e0⟩| ⟨g,cap,cur,e,hb1,hh,-⟩
 ·simp only[Value.slice.injEq] at e
  omega
 ·simp only[Value.slice.injEq] at e
  obtain⟨rfl,-,-⟩:=e
  have hl:=(Array.getElem?_eq_some_iff.1 hh).1
  refine⟨g,rfl,by omega,hl,fun i hi=>?_⟩
  obtain⟨b,off,e,-,c0,c1⟩:=hS.at i hi
  simp only[Option.some.injEq,Addr.mk.injEq,and_true] at e
  obtain⟨rfl,rfl⟩:=e
  exact⟨⟨_,c0⟩,⟨_,c1⟩,fun j=>frozen_of_row w' g j cur _ hh⟩
def aUZ(ps:List Pt)(w:World)(e:Ending)(w':World):Prop:=∃ra rc,e=.returned (.slice ra (aEH ps).length rc)∧Below w.heap.size w w'∧aRQ w w' (aEH ps) ra
set_option maxRecDepth 20000 in
set_option maxHeartbeats 1600000 in
theorem aKW(ps:List Pt)(w:World)(B:Nat)(a:Option Addr)(c:Nat)(hc:ps.length≤c)(hR:aAZ w (·<B) ps a)(hB:B≤w.heap.size)(hz:∀i,i<ps.length→szP (pth ps i)≤1048576)(hG:GErr w):
  Calls Tryz.prog 10 #[.slice a ps.length c] w (aUZ ps w):=by
 have HCR:=aA0 (aPT ps w B a c hc hR hB hz hG)
 have HPP:Hid (∀W,Below w.heap.size w W→aAZ W (·<B) ps a):=aA0 fun W hW=>hR.under (hW.mono hB)
 have HBB:=aA0 hB
 have HND:=aA0 (aMA ps hz)
 have HWK:Hid (∀W B' base N m stop lb fid caps ta tc sv,aBT ps okP=true→Below w.heap.size w W→PRep W (·<B') (allM ps) (.agg #[.string (allM ps).name,.slice ta (allM ps).types.length tc])→B≤B'→B'≤base→RcI base N m (.slice a ps.length c) (.string (allM ps).name) (.slice ta (allM ps).types.length tc) [⟨0,qry⟩] [[]] sv W→(∀(args:Array Value) (W:World),Sem.run Tryz.prog (callFunc fid args) W=Result.ok (Next.enter fid args) W)→(∀(W':World) (wa:Option Addr) (n k:Nat) (ans:Bool),Below base W W'→Calls Tryz.prog fid (#[.slice wa n k,.bool ans]++caps) W' (aR2 stop lb wa n k ans W'))→
   Calls Tryz.prog 31 #[.pointer (some ⟨N,0,none⟩),.func (.func fid) #[] caps] W (aLB stop lb base N m (.slice a ps.length c) (.string (allM ps).name) (.slice ta (allM ps).types.length tc) ps (allM ps) W)):=aA0 fun W B' base N m stop lb fid caps ta tc sv hch hW hA hBB hbase hr hcf hT=>
  aSM ps (allM ps) W B' base N m a c ta tc sv stop lb fid caps (aEU hch).1 (aEU hch).2.1 (aEU hch).2.2 HND.out ((HPP.out W hW).sub fun b (hb:b<B)=>show b<B' by omega) hA hbase hr hcf hT
 have HRL:Hid (aEH ps=if aBT ps okP=true then(wkE ps (allM ps)).st else[]):=aA0 rfl
 clear hR hB hz hG hc
 generalize hch:aBT ps okP=ch at*
 replace hch:=aA0 hch
 generalize ps.length=pl at*
 go_enter Tryz.func10,Tryz.ntmps10
 go_upto_region 2 with(
  go_at_call 29
  refine HCR.out.mono ?_
  rintro e w1 ⟨s,ta,tn,tc,rfl,b1,hP⟩)
 have nC:=aA3 (w:=w1) (N:=w1.heap.size) #[.slice a pl c,.string s,.slice ta tn tc] 61 rfl
 have bC:=aA2 w1 (.cells #[.slice a pl c,.string s,.slice ta tn tc] 61)
 have bX:=b1.trans (bC.mono b1.size)
 cases ch
 ·have HE:Hid (aEH ps=[]):=aA0 (by rw[HRL.out,if_neg (by simp)])
  clear nC bC
  go_wp2_with fail
  go_ret
  refine⟨none,0,by rw[HE.out]<;>rfl,bX,?_⟩
  rw[HE.out]
  exact⟨⟨fun _ _=>undef,fun h=>by simp at h,fun i hi=>by simp at hi⟩,fun h=>by simp at h⟩
 ·have HE:Hid (aEH ps=(wkE ps (allM ps)).st):=aA0 (by rw[HRL.out,if_pos rfl])
  have hPX:PRep _ (·<w1.heap.size) (allM ps) (.agg #[.string s,.slice ta tn tc]):=((hP rfl).mono fun b hb=>bC.block b hb.2).sub fun b hb=>hb.2
  generalize w1.alloc (.cells #[.slice a pl c,.string s,.slice ta tn tc] 61)=X at*
  have hPX':=hPX
  obtain⟨ta',tc',e,-⟩:=hPX'
  simp only[Value.agg.injEq,Array.mk.injEq,List.cons.injEq,Value.string.injEq,Value.slice.injEq,and_true] at e
  obtain⟨rfl,rfl,rfl,rfl⟩:=e
  have HPX:=aA0 hPX
  obtain⟨c0,-⟩:=aA1 nC 0 (by simp)
  obtain⟨c1,-⟩:=aA1 nC 1 (by simp)
  obtain⟨c2,-⟩:=aA1 nC 2 (by simp)
  simp only[List.getElem_toArray,List.getElem_cons_zero,List.getElem_cons_succ] at c0 c1 c2
  have HNW:=aA0 (aM4 a pl c (allM ps).name ta (allM ps).types.length tc X)
  have HSZ:Hid (w.heap.size≤w1.heap.size∧w1.heap.size≤X.heap.size):=aA0 ⟨b1.size,bC.size⟩
  clear hP hPX nC bC b1
  generalize hnm:(allM ps).name=anm at*
  generalize htl:(allM ps).types.length=atl at*
  go_upto_region 5 with(
   go_at_call 30
   refine HNW.out.mono ?_
   rintro e w2 ⟨n,sa,sc,m,N,rfl,b2,hr⟩
   have HRR:=aA0 hr
   clear hr)
  have hrb:=HRR.out.rebox
  have bR:=aA2 w2 (.cells #[.slice a pl c,.string anm,.slice ta atl tc,.slice sa n sc,.map (some m)] 66)
  have bY:=b2.trans (bR.mono b2.size)
  generalize w2.alloc (.cells #[.slice a pl c,.string anm,.slice ta atl tc,.slice sa n sc,.map (some m)] 66)=Y at*
  have HWA:=aA0 (HWK.out Y w1.heap.size X.heap.size w2.heap.size m false 0 32 #[] ta tc (.slice sa n sc) (by first| rfl| trivial) (bX.trans (bY.mono bX.size)) (HPX.out.under (bY.mono HSZ.out.2)) (by have:=HBB.out;have:=HSZ.out;omega) HSZ.out.2 hrb aU3 (fun W' wa n k ans _=>aND W' wa n k ans 0))
  have HBY:=aA0 bY
  clear c0 c1 c2 HWK HRR hrb bR bY
  go_upto_region 6 with(
   go_at_call 31
   refine HWA.out.mono ?_
   rintro e w3 ⟨rfl,hgo,-⟩
   have HGO:=aA0 (hgo (.inl rfl))
   clear hgo)
  obtain⟨b3,sv,hr3⟩:=HGO.out
  obtain⟨va,vc,hsv⟩:=aGD hr3.b.srow
  have r3:=hr3.b.cells.2.1
  have hsr:=hr3.b.srow
  rw[hsv] at r3 hsr
  have HFIN:Hid (aUZ ps w (.returned (.slice va (wkE ps (allM ps)).st.length vc)) w3):=aA0 ⟨va,vc,by rw[HE.out],bX.trans ((HBY.out.trans b3).mono bX.size),by rw[HE.out];exact aRA hsr (by have:=HSZ.out;omega)⟩
  clear hr3 hsr hsv b3 HGO
  go_wp2_with fail
  go_ret
  exact HFIN.out
end Go.Proofs.YtcebpkeiaiiphaaGreatDoor
namespace Go.Proofs.YtcebpkeiaiiphaaGreatDoor
open Go.RowKit
theorem aAM.belowR{lo hi B:Nat}{a b:World}(m:aAM lo hi a b)(hB:B≤lo)(hs:B≤a.heap.size):Below B a b:=
 ⟨m.os,m.tape,m.output,m.size,fun k hk=>m.block k (by omega) (by omega)⟩
theorem But.belowR{b B:Nat}{w w':World}(h:But b w w')(hb:B≤b)(hs:B≤w.heap.size):Below B w w':=
 ⟨h.os,h.tape,h.output,h.size,fun k hk=>h.block k (by omega) (by omega)⟩
theorem GErr.onR{w W:World}(h:GErr w)(hb:Below w.heap.size w W):GErr W:=h.on hb
theorem aQL{ps:List Pt}(h:szPs ps≤1048576):∀i,i<ps.length→szP (pth ps i)≤1048576:=fun i hi=>by
 have h1:=aIO ps i ps.length hi
 have h2:szPs ps=ps.length+aEX ps ps.length:=rfl
 omega
set_option maxHeartbeats 800000 in
theorem aP8(a:Option Addr)(c k:Nat)(w:World):Calls Tryz.prog 14 #[.slice a 0 c,.int .i64 k] w fun e w'=>e=.returned (.int .i64 k)∧w'=w:=by
 go_enter Tryz.func14,Tryz.ntmps14
 go_wp2_with fail
 go_loopw [1,5] (fun kk i wr=>kk=.int .i64 k∧i=.int .i64 0∧wr=w) (fun _ _ _=>0)
 case atStart=>exact⟨rfl,rfl,rfl⟩
 case round=>
  obtain⟨rfl,rfl,rfl⟩:=hrel
  go_wp2_with fail
  go_ret
  exact⟨rfl,rfl⟩
set_option maxHeartbeats 800000 in
theorem aQ0(a:Option Addr)(c k:Nat)(w:World):Calls Tryz.prog 15 #[.slice a 0 c,.int .i64 k] w fun e w'=>e=.returned (.int .i64 k)∧w'=w:=by
 go_enter Tryz.func15,Tryz.ntmps15
 go_wp2_with fail
 go_loopw [1,5] (fun kk i wr=>kk=.int .i64 k∧i=.int .i64 0∧wr=w) (fun _ _ _=>0)
 case atStart=>exact⟨rfl,rfl,rfl⟩
 case round=>
  obtain⟨rfl,rfl,rfl⟩:=hrel
  go_wp2_with fail
  go_ret
  exact⟨rfl,rfl⟩
def aH0(base:Nat)(n:Nat)(ra:Option Addr)(k:Nat)(w:World):Prop:=0<n→∃b,ra=some ⟨b,0,none⟩∧b<w.heap.size∧aP5 w b 0 n k
theorem aUG(ss:List Sta)(w0 w:World)(ra:Option Addr)(rc:Nat)(hn:ss.length≤1000)(h:0<ss.length→∃b,ra=some ⟨b,0,none⟩∧w0.heap.size≤b∧b<w.heap.size∧WSs w b 0 ss.length)(hs:w0.heap.size≤w.heap.size):
  Calls Tryz.prog 14 #[.slice ra ss.length rc,.int .i64 1] w fun e w'=>e=.returned (.int .i64 ((1+ss.length*2:Nat):Int))∧Below w0.heap.size w w'∧aH0 0 ss.length ra 1 w':=by
 by_cases h0:ss.length=0
 ·rw[h0]
  refine(aP8 ra rc 1 w).mono ?_
  rintro e w' ⟨rfl,rfl⟩
  exact⟨rfl,Below.refl _ _,fun h=>by omega⟩
 ·obtain⟨b,rfl,hb1,hb2,hw⟩:=h (by omega)
  refine(aK0 ss.length rc 1 b 0 w hw (by omega) (by omega)).mono ?_
  rintro e w' ⟨rfl,hbut,hh⟩
  exact⟨rfl,hbut.belowR hb1 hs,fun _=>⟨b,rfl,by have:=hbut.size;omega,hh⟩⟩
theorem aH0.keep{base n k:Nat}{ra:Option Addr}{w w':World}(h:aH0 base n ra k w)(hb:Below w.heap.size w w'):aH0 base n ra k w':=fun hn=>by
 obtain⟨b,e,h1,h2⟩:=h hn
 exact⟨b,e,by have:=hb.size;omega,fun i hi=>⟨(hb.cell (aBA (h2 i hi).1)).trans (h2 i hi).1,(hb.cell (aBA (h2 i hi).2)).trans (h2 i hi).2⟩⟩
theorem aQZ(ss:List Sta)(w:World)(ra:Option Addr)(rc:Nat)(hn:ss.length≤1000)(h:aH0 0 ss.length ra 1 w):
  Calls Tryz.prog 15 #[.slice ra ss.length rc,.int .i64 1] w fun e w'=>e=.returned (.int .i64 ((1+ss.length*2:Nat):Int))∧Below w.heap.size w w':=by
 by_cases h0:ss.length=0
 ·rw[h0]
  refine(aQ0 ra rc 1 w).mono ?_
  rintro e w' ⟨rfl,rfl⟩
  exact⟨rfl,Below.refl _ _⟩
 ·obtain⟨b,rfl,-,hw⟩:=h (by omega)
  refine(aK3 ss.length rc 1 b 0 w hw (by omega) (by omega)).mono ?_
  rintro e w' ⟨rfl,hb⟩
  exact⟨rfl,hb⟩
set_option maxRecDepth 20000 in
set_option maxHeartbeats 3200000 in
theorem aI6(ps:List Pt)(w:World)(ra:Option Addr)(rc:Nat)(hR:aAZ w (·<w.heap.size) ps ra)(hG:GErr w):
  Calls Tryz.prog 3 #[.slice ra ps.length rc] w fun e w'=>e=.returned (.bool true)∧Below w.heap.size w w':=by
 have HTP:=aA0 (fun W (hb:Below w.heap.size w W)=>aQA ps W w.heap.size ra rc (hR.under hb) hb.size)
 have HPz:=aA0 (aNG ps w w.heap.size ra rc 1048576 hR (Nat.le_refl _) (by omega) (by omega))
 have HGE:=aA0 (fun W (hb:Below w.heap.size w W)=>hG.onR hb)
 clear hR hG
 go_enter Tryz.func3,Tryz.ntmps3
 go_wp2_with fail
 refine HPz.out.mono ?_
 rintro e w1 ⟨y,rfl,hy0,hy1,hy2,x1⟩
 have HY:=aA0 hy2
 clear hy2 HPz
 by_cases hy:y<0
 ·go_wp2_with fail
  go_ret
  exact⟨rfl,x1⟩
 have HZ:Hid (szPs ps≤1048576):=aA0 (by have:=HY.out (by omega);omega)
 have HZE:=aA0 (aQL HZ.out)
 have HFEW:=aA0 (aQ4 ps)
 clear HY hy0 hy1
 obtain⟨L,HL⟩:∃L,Hid (aEH ps=L):=⟨_,aA0 rfl⟩
 have hL20:L.length≤20:=by rw[←HL.out];exact HFEW.out
 have HSPEC:Hid (∀(W:World) Lo B a c,aAZ W (fun b=>Lo≤b∧b<B) ps a→B≤W.heap.size→Calls Tryz.prog 8 #[.slice a ps.length c] W fun e w'=>∃ra rc,e=.returned (.slice ra L.length rc)∧Below W.heap.size W w'∧aFU w' (fun b=>W.heap.size≤b∧b<w'.heap.size) L ra):=aA0 fun W Lo B a c h hB=>by
  have:=aKU ps W Lo B a c h hB HZE.out
  rw[HL.out] at this
  exact this
 have HIMPL:Hid (∀(W:World) B a,aAZ W (·<B) ps a→B≤W.heap.size→GErr W→Calls Tryz.prog 10 #[.slice a ps.length ps.length] W fun e w'=>∃ra rc,e=.returned (.slice ra L.length rc)∧Below W.heap.size W w'∧aRQ W w' L ra):=aA0 fun W B a h hB hG=>(aKW ps W B a ps.length (Nat.le_refl _) h hB HZE.out hG).mono fun e w' h=>by
  obtain⟨ra,rc,h1,h2,h3⟩:=h
  rw[HL.out] at h1 h3
  exact⟨ra,rc,h1,h2,h3⟩
 have HMK:=aA0 (fun W lo hi a (hw:WPs W lo hi ps a)=>aKT ps ps.length 1 lo hi a W hw HZ.out (by omega))
 have HEQP:=aA0 (fun W B a a' (h1:aAZ W (·<B) ps a) (h2:aAZ W (·<B) ps a') (hB:B≤W.heap.size)=>aNP ps W B a a' ps.length ps.length h1 h2 hB)
 clear HZ HZE HFEW HL
 go_wp2_with fail
 refine(HTP.out w1 x1).mono ?_
 rintro e w2 ⟨rfl,b2,z2,hP2,-⟩
 have x2:=x1.trans (b2.mono x1.size)
 have HSp:=aA0 (HSPEC.out w2 w1.heap.size w2.heap.size _ ps.length hP2 (Nat.le_refl _))
 clear hP2 z2 b2
 go_wp2_with fail
 refine HSp.out.mono ?_
 rintro e w3 ⟨ra0,rc0,rfl,b3,hS0⟩
 have x3:=x2.trans (b3.mono x2.size)
 have HS0:=aA0 hS0
 have hz23:=b3.size
 clear hS0 HSp HSPEC b3
 go_wp2_with fail
 refine(HTP.out w3 x3).mono ?_
 rintro e w4 ⟨rfl,b4,z4,hP4,hN4⟩
 have x4:=x3.trans (b4.mono x3.size)
 have HW4:=aA0 (WPs.of_rep hP4 hN4)
 have HP4:=aA0 hP4
 have HIm:=aA0 (HIMPL.out w4 w4.heap.size _ (hP4.sub fun b hb=>hb.2) (Nat.le_refl _) (HGE.out w4 x4))
 have HB4:=aA0 b4
 have HX3:=aA0 x3
 have hz34:=b4.size
 clear hP4 hN4 b4
 go_wp2_with fail
 refine HIm.out.mono ?_
 rintro e w5 ⟨ra1,rc1,rfl,b5,hS1,hW1⟩
 have x5:=x4.trans (b5.mono x4.size)
 have HS05:=aA0 ((HS0.out.mono fun b hb=>((HB4.out.trans (b5.mono hz34)).block b hb.2)).sub fun b (hb:w2.heap.size≤b∧b<w3.heap.size)=>show b<w3.heap.size from hb.2)
 have HS1:=aA0 hS1
 have HW1:=aA0 hW1
 have HP5:=aA0 (HP4.out.mono fun b hb=>b5.block b hb.2)
 have HW5:=aA0 (HW4.out.keep (aAM.of_below 0 0 b5))
 have hz45:=b5.size
 have HE1:=aA0 (aFB L w5 _ _ ra1 ra0 rc1 rc0 HS1.out HS05.out (by omega))
 clear hS1 hW1 HIm HS0 HP4 HW4 b5 HB4
 go_wp2_with fail
 refine HE1.out.mono ?_
 rintro e w6 ⟨rfl,b6⟩
 have x6:=x5.trans (b6.mono x5.size)
 have hz56:=b6.size
 clear HE1
 go_wp2_with fail
 refine(HTP.out w6 x6).mono ?_
 rintro e w7 ⟨rfl,b7,z7,hP7,-⟩
 have x7:=x6.trans (b7.mono x6.size)
 have hz67:=b7.size
 have B57:=b6.trans (b7.mono hz56)
 have HE2:=aA0 (HEQP.out w7 w7.heap.size _ _ ((HP5.out.mono fun b hb=>B57.block b (by have:=hb.2;omega)).sub fun b (hb:w3.heap.size≤b∧b<w4.heap.size)=>show b<w7.heap.size by omega) (hP7.sub fun b hb=>hb.2) (Nat.le_refl _))
 clear hP7 HEQP b6 b7 z7
 go_wp2_with fail
 refine HE2.out.mono ?_
 rintro e w8 ⟨rfl,b8⟩
 have x8:=x7.trans (b8.mono x7.size)
 have hz78:=b8.size
 have B58:=B57.trans (b8.mono (by omega))
 have HM8:=aA0 (HMK.out w8 w3.heap.size w4.heap.size _ (HW5.out.keep (aAM.of_below 0 0 B58)))
 clear HE2 HMK HW5 HP5 b8 B57
 go_wp2_with fail
 refine HM8.out.mono ?_
 rintro e w9 ⟨rfl,m9⟩
 have hx3:=HX3.out.size
 have x9:=x8.trans (m9.belowR (B:=w.heap.size) hx3 (by omega))
 have hz89:=m9.size
 have HS09:=aA0 ((HS05.out.mono fun b (hb:b<w3.heap.size)=>(m9.block b (by omega) (by omega)).trans (B58.block b (by omega))))
 have HS19:=aA0 (HS1.out.mono fun b (hb:w4.heap.size≤b∧b<w5.heap.size)=>(m9.block b (by omega) (by omega)).trans (B58.block b hb.2))
 have HW19:Hid (0<L.length→∃b,ra1=some ⟨b,0,none⟩∧w4.heap.size≤b∧b<w9.heap.size∧WSs w9 b 0 L.length):=aA0 fun hn=>by
  obtain⟨b,e,h1,h2,h3⟩:=HW1.out hn
  have hb:w9.heap[b]?=w5.heap[b]?:=(m9.block b (by omega) (by omega)).trans (B58.block b h2)
  refine⟨b,e,h1,by omega,fun i hi=>?_⟩
  obtain⟨⟨q0,q1⟩,⟨q2,q3⟩,q4⟩:=h3 i hi
  exact⟨⟨q0,(World.cell?_of_block (a:=⟨b,0+i*2,none⟩) hb).trans q1⟩,⟨q2,(World.cell?_of_block (a:=⟨b,0+i*2+1,none⟩) hb).trans q3⟩,fun j=>by have:=q4 j;simpa[World.frozen?,hb] using this⟩
 have HE3:=aA0 (aFB L w9 _ _ ra1 ra0 rc1 rc0 HS19.out HS09.out (by omega))
 have hk0:¬((1+mPs ps ps.length:Nat):Int)<0:=by omega
 clear HM8 HS05 HS1 HW1 m9 B58
 generalize (1+mPs ps ps.length:Nat)=kk at*
 go_wp2_with fail
 refine HE3.out.mono ?_
 rintro e w10 ⟨rfl,b10⟩
 have x10:=x9.trans (b10.mono x9.size)
 have hz910:=b10.size
 have HMS:=aA0 (aUG L w4 w10 ra1 rc1 (by omega) (fun hn=>by
  obtain⟨b,e,h1,h2,h3⟩:=HW19.out hn
  have hb:w10.heap[b]?=w9.heap[b]?:=b10.block b h2
  refine⟨b,e,h1,by omega,fun i hi=>?_⟩
  obtain⟨⟨q0,q1⟩,⟨q2,q3⟩,q4⟩:=h3 i hi
  exact⟨⟨q0,(World.cell?_of_block (a:=⟨b,0+i*2,none⟩) hb).trans q1⟩,⟨q2,(World.cell?_of_block (a:=⟨b,0+i*2+1,none⟩) hb).trans q3⟩,fun j=>by have:=q4 j;simpa[World.frozen?,hb] using this⟩) (by omega))
 have HS0A:=aA0 (HS09.out.mono fun b (hb:b<w3.heap.size)=>b10.block b (by omega))
 clear HE3 HW19 HS19 HS09 b10 hk0
 go_wp2_with fail
 refine HMS.out.mono ?_
 rintro e w11 ⟨rfl,b11,hm11⟩
 have x11:=x10.trans (b11.mono (by omega))
 have hz1011:=b11.size
 have HS0B:=aA0 (HS0A.out.mono fun b (hb:b<w3.heap.size)=>b11.block b (by omega))
 have HH1:=aA0 (aQZ L w11 ra1 rc1 (by omega) hm11)
 have HMM:=aA0 hm11
 clear hm11 b11 HMS HS0A
 obtain⟨mm,hmm⟩:∃x:Int,x=((1+L.length*2:Nat):Int):=⟨_,rfl⟩
 have hm0:¬mm<0:=by omega
 rw[←hmm] at HH1 ⊢
 have HHM:=aA0 hmm
 clear hmm
 go_wp2_with fail
 refine HH1.out.mono ?_
 rintro e w12 ⟨rfl,b12⟩
 have x12:=x11.trans (b12.mono x11.size)
 have hz1112:=b12.size
 clear HH1
 go_wp2_with fail
 refine(HTP.out w12 x12).mono ?_
 rintro e w13 ⟨rfl,b13,z13,hP13,-⟩
 have x13:=x12.trans (b13.mono x12.size)
 have hz1213:=b13.size
 have HI2:=aA0 (HIMPL.out w13 w13.heap.size _ (hP13.sub fun b hb=>hb.2) (Nat.le_refl _) (HGE.out w13 x13))
 clear hP13 HIMPL z13
 go_wp2_with fail
 refine HI2.out.mono ?_
 rintro e w14 ⟨ra2,rc2,rfl,b14,hS2,-⟩
 have x14:=x13.trans (b14.mono x13.size)
 have hz1314:=b14.size
 have B1114:=b12.trans ((b13.trans (b14.mono hz1213)).mono hz1112)
 have HE4:=aA0 (aFB L w14 _ _ ra2 ra0 rc2 rc0 hS2 (HS0B.out.mono fun b (hb:b<w3.heap.size)=>B1114.block b (by omega)) (by omega))
 clear hS2 HI2 b12 b13 b14 HS0B
 go_wp2_with fail
 refine HE4.out.mono ?_
 rintro e w15 ⟨rfl,b15⟩
 have x15:=x14.trans (b15.mono x14.size)
 have HH2:Hid (Calls Tryz.prog 15 #[.slice ra1 L.length rc1,.int .i64 1] w15 fun e w'=>e=.returned (.int .i64 mm)∧Below w15.heap.size w15 w'):=aA0 (by rw[HHM.out];exact aQZ L w15 ra1 rc1 (by omega) ((HMM.out.keep B1114).keep b15))
 clear HE4 b15 B1114 HMM
 go_wp2_with fail
 refine HH2.out.mono ?_
 rintro e w16 ⟨rfl,b16⟩
 have x16:=x15.trans (b16.mono x15.size)
 clear HH2
 go_wp2_with fail
 go_ret
 exact⟨rfl,x16⟩
end Go.Proofs.YtcebpkeiaiiphaaGreatDoor
