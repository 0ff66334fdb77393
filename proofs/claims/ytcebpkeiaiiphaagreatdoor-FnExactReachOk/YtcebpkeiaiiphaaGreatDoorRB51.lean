import Derived.Test.YtcebpkeiaiiphaaGreatDoorRB50
set_option linter.unusedSimpArgs false
set_option linter.unusedVariables false
namespace Go.Proofs.YtcebpkeiaiiphaaGreatDoor
open Go.RowKit Go.Maps Go.MapKept
theorem RcI.rebox{base N m:Nat}{c0 c1 c2 sv:Value}{st:List Sta}{wy:List (List ByteArray)}{w:World}(h:RcI base N m c0 c1 c2 st wy sv w):
  RcI base w.heap.size m c0 c1 c2 st wy sv (w.alloc (.cells #[c0,c1,c2,sv,.map (some m)] 66)):=by
 have bX:=aA2 w (.cells #[c0,c1,c2,sv,.map (some m)] 66)
 have zX:(w.alloc (.cells #[c0,c1,c2,sv,.map (some m)] 66)).heap.size=w.heap.size+1:=by simp
 obtain⟨G,hO,hG⟩:=h.map
 refine⟨⟨aA3 _ _ rfl,aAE h.b.srow bX,fun e=>?_,h.b.mM,fun e=>by have:=h.b.lm;omega,by have:=h.b.bN;have:=h.b.lN;omega,h.b.bm,by have:=h.b.lm;omega⟩,h.len,G,hO.of_block (bX.block m h.b.lm),fun i hi=>?_,hG.none⟩
 ·have:=(h.b.srow.lt _ e).2;omega
 ·obtain⟨a,c,h1,h2⟩:=hG.way i hi
  exact⟨a,c,h1,(h2.mono fun b hb=>bX.block b hb.2.1).sub fun b hb=>⟨hb.1,by have:=hb.2.1;omega,hb.2.2.1,by have:=hb.2.1;omega,hb.2.2.2.2⟩⟩
theorem aS8{w:World}{N:Nat}{T:TypeId}{a0 a1 a2 a3 a4:Value}(hb:w.heap[N]?=some (.cells #[a0,a1,a2,a3,a4] T (0,0)))(v0 v1 v2 v3 v4:Value):
  (((((w.setCell ⟨N,0,none⟩ v0).setCell ⟨N,1,none⟩ v1).setCell ⟨N,2,none⟩ v2).setCell ⟨N,3,none⟩ v3).setCell ⟨N,4,none⟩ v4).heap[N]?=some (.cells #[v0,v1,v2,v3,v4] T (0,0)):=by
 simpa using aAB (aAB (aAB (aAB (aAB hb 0 v0) 1 v1) 2 v2) 3 v3) 4 v4
theorem aV2{base N m R:Nat}{c0 c1 c2:Value}{sa:Option Addr}{sc:Nat}{w W:World}(h:RcI base N m c0 c1 c2 [⟨0,qry⟩] [[]] (.slice sa 1 sc) w)(hput:∀b,b≠R→W.heap[b]?=w.heap[b]?)(hsz:W.heap.size=w.heap.size)(hN:R≠N)(hm:R≠m)(hR:True)(hs:(Value.slice sa 1 sc).ownBlock≠some R):RcI base N m c0 c1 c2 [⟨0,qry⟩] [[]] (.slice sa 1 sc) W:=by
 obtain⟨G,hO,hG⟩:=h.map
 refine⟨⟨(hput N fun e=>hN e.symm).trans h.b.box,aB1 h.b.srow fun g e=>hput g fun e2=>hs (by rw[e,e2]),h.b.mS,h.b.mM,h.b.nM,h.b.bN,h.b.bm,by rw[hsz];exact h.b.lm⟩,h.len,G,hO.of_block (hput m fun e=>hm e.symm),fun i hi=>?_,hG.none⟩
 obtain⟨a,c,h1,h2⟩:=hG.way i hi
 have e:i=0:=by simp at hi;exact hi
 subst e
 exact⟨a,c,h1,aDS _ _ _⟩
def aUK(a:Option Addr)(pl c:Nat)(s:ByteArray)(ta:Option Addr)(tn tc:Nat)(w:World)(e:Ending)(w':World):Prop:=∃n sa sc m N,e=.returned (.agg #[.slice a pl c,.string s,.slice ta tn tc,.slice sa n sc,.map (some m)])∧Below w.heap.size w w'∧RcI w.heap.size N m (.slice a pl c) (.string s) (.slice ta tn tc) [⟨0,qry⟩] [[]] (.slice sa n sc) w'
set_option maxRecDepth 20000 in
set_option maxHeartbeats 1600000 in
theorem aLP(a:Option Addr)(pl c:Nat)(s:ByteArray)(ta:Option Addr)(tn tc:Nat)(w:World):
  Calls Tryz.prog 30 #[.agg #[.slice a pl c,.string s,.slice ta tn tc]] w (aUK a pl c s ta tn tc w):=by
 have hmm:=@run_makeMap Tryz.prog
 go_enter Tryz.func30,Tryz.ntmps30
 have bP:=aA5 w (.cells #[.slice a pl c,.string s,.slice ta tn tc] 61) (.cells #[.slice none 0 0,.string ⟨#[]⟩,.slice none 0 0,.slice none 0 0,.map none] 66)
 have zP:((w.alloc (.cells #[.slice a pl c,.string s,.slice ta tn tc] 61)).alloc (.cells #[.slice none 0 0,.string ⟨#[]⟩,.slice none 0 0,.slice none 0 0,.map none] 66)).heap.size=w.heap.size+1+1:=by simp
 have nC:((w.alloc (.cells #[.slice a pl c,.string s,.slice ta tn tc] 61)).alloc (.cells #[.slice none 0 0,.string ⟨#[]⟩,.slice none 0 0,.slice none 0 0,.map none] 66)).heap[w.heap.size]?=some (.cells #[.slice a pl c,.string s,.slice ta tn tc] 61 (0,0)):=by
  rw[(aA2 _ _).block _ (by simp)]
  exact aA3 _ _ rfl
 have nR:((w.alloc (.cells #[.slice a pl c,.string s,.slice ta tn tc] 61)).alloc (.cells #[.slice none 0 0,.string ⟨#[]⟩,.slice none 0 0,.slice none 0 0,.map none] 66)).heap[w.heap.size+1]?=some (.cells #[.slice none 0 0,.string ⟨#[]⟩,.slice none 0 0,.slice none 0 0,.map none] 66 (0,0)):=aA3 _ _ (by simp)
 go_upto_region 1 with fail
 generalize (w.alloc (.cells #[.slice a pl c,.string s,.slice ta tn tc] 61)).alloc (.cells #[.slice none 0 0,.string ⟨#[]⟩,.slice none 0 0,.slice none 0 0,.map none] 66)=X at*
 obtain⟨q0,-⟩:=aA1 nC 0 (by simp)
 obtain⟨q1,-⟩:=aA1 nC 1 (by simp)
 obtain⟨q2,-⟩:=aA1 nC 2 (by simp)
 simp only[List.getElem_toArray,List.getElem_cons_zero,List.getElem_cons_succ] at q0 q1 q2
 have HZP:=aA0 zP
 have HBP:=aA0 bP
 have HNR:=aA0 nR
 clear zP bP nC nR
 go_upto_region 2 with fail
 clear q0 q1 q2
 have nM:((X.alloc (.map #[] 0)).alloc (.cells #[.slice a pl c,.string s,.slice ta tn tc,.slice none 0 0,.map (some X.heap.size)] 66)).heap[X.heap.size]?=some (.map #[] 0):=by
  rw[(aA2 _ _).block _ (by simp)]
  exact heap_alloc_new _ _
 have nB:((X.alloc (.map #[] 0)).alloc (.cells #[.slice a pl c,.string s,.slice ta tn tc,.slice none 0 0,.map (some X.heap.size)] 66)).heap[X.heap.size+1]?=some (.cells #[.slice a pl c,.string s,.slice ta tn tc,.slice none 0 0,.map (some X.heap.size)] 66 (0,0)):=aA3 _ _ (by simp)
 have bY:=aA5 X (.map #[] 0) (.cells #[.slice a pl c,.string s,.slice ta tn tc,.slice none 0 0,.map (some X.heap.size)] 66)
 have zY:((X.alloc (.map #[] 0)).alloc (.cells #[.slice a pl c,.string s,.slice ta tn tc,.slice none 0 0,.map (some X.heap.size)] 66)).heap.size=X.heap.size+1+1:=by simp
 generalize (X.alloc (.map #[] 0)).alloc (.cells #[.slice a pl c,.string s,.slice ta tn tc,.slice none 0 0,.map (some X.heap.size)] 66)=Y at*
 have HR0:Hid (RcI w.heap.size (X.heap.size+1) X.heap.size (.slice a pl c) (.string s) (.slice ta tn tc) [] [] (.slice none 0 0) Y):=aA0
  ⟨⟨nB,World.ownsRow_nil _ _ _ _,fun e=>(by cases e),fun e=>(by cases e),by omega,by have:=HZP.out;omega,by have:=HZP.out;omega,by omega⟩,rfl,fun _=>none,⟨#[],0,nM,by simp,by simp,by simp⟩,fun i hi=>by simp at hi,fun _ _=>rfl⟩
 have HCO:=aA0 (aOU w.heap.size (X.heap.size+1) X.heap.size (.slice a pl c) (.string s) (.slice ta tn tc) [] [] (.slice none 0 0) ⟨0,qry⟩ [] none 0 Y HR0.out (aDS _ _ _) (by simp))
 have HBY:=aA0 bY
 have HZY:=aA0 zY
 clear nM nB bY zY
 go_upto_region 3 with(go_at_call 54;refine HCO.out.mono ?_;rintro e w2 ⟨rfl,sv,hr0,hc0,hn0⟩;have HRR:=aA0 hr0;have HCC:=aA0 hc0;have HNN:=aA0 hn0;clear hr0 hc0 hn0)
 have hr:=HRR.out
 have hc:=HCC.out
 have hn:=HNN.out
 clear HRR HCC HNN
 obtain⟨sa,sc,hsv⟩:=aJ4 hr.b.srow
 have hst:stC [] ⟨0,qry⟩=[⟨0,qry⟩]:=rfl
 have hwy:wyC [] [] ⟨0,qry⟩ []=[[]]:=rfl
 rw[hst,hwy] at hr
 rw[hst] at hsv
 rw[hsv] at hr
 simp only[List.length_singleton] at hr
 have HR:=aA0 hr
 have HC:Hid (w2.heap[w.heap.size+1]?=some (.cells #[.slice none 0 0,.string ⟨#[]⟩,.slice none 0 0,.slice none 0 0,.map none] 66 (0,0))∧Below w.heap.size w w2):=aA0 (by
  have h1:=HZP.out;have h2:=HBY.out.size;have h3:=HZY.out
  have hb:=HBP.out.trans (HBY.out.mono HBP.out.size)
  refine⟨(hc.block (w.heap.size+1) (by omega) (by omega) (by omega) fun e=>by cases e).trans ((HBY.out.block (w.heap.size+1) (by omega)).trans HNR.out),hc.os.trans hb.os,hc.tape.trans hb.tape,hc.output.trans hb.output,by have:=hc.size;omega,fun b hb'=>(hc.block b (by omega) (by omega) (by omega) fun e=>by cases e).trans (hb.block b hb')⟩)
 obtain⟨⟨r0,r1,r2⟩,r3,r4⟩:=hr.b.cells
 have HSO:Hid ((Value.slice sa 1 sc).ownBlock≠some (w.heap.size+1)):=aA0 fun e=>by
  rcases hn (w.heap.size+1) (by rw[hsv];exact e) with h| h
  ·cases h
  ·have h1:=HZP.out;have h2:=HZY.out;omega
 have HNE:Hid (w.heap.size+1≠X.heap.size+1∧w.heap.size+1≠X.heap.size):=aA0 (by have:=HZP.out;omega)
 clear hr hc hn hsv hst hwy HCO HR0
 obtain⟨y0,g0⟩:=aA1 HC.out.1 0 (by simp)
 obtain⟨y1,g1⟩:=aA1 HC.out.1 1 (by simp)
 obtain⟨y2,g2⟩:=aA1 HC.out.1 2 (by simp)
 obtain⟨y3,g3⟩:=aA1 HC.out.1 3 (by simp)
 obtain⟨y4,g4⟩:=aA1 HC.out.1 4 (by simp)
 simp only[List.getElem_toArray,List.getElem_cons_zero,List.getElem_cons_succ] at y0 y1 y2 y3 y4
 have HR5:=aA0 (aS8 HC.out.1 (.slice a pl c) (.string s) (.slice ta tn tc) (.slice sa 1 sc) (.map (some X.heap.size)))
 have HFIN:Hid (aUK a pl c s ta tn tc w (.returned (.agg #[.slice a pl c,.string s,.slice ta tn tc,.slice sa 1 sc,.map (some X.heap.size)])) (((((w2.setCell ⟨w.heap.size+1,0,none⟩ (.slice a pl c)).setCell ⟨w.heap.size+1,1,none⟩ (.string s)).setCell ⟨w.heap.size+1,2,none⟩ (.slice ta tn tc)).setCell ⟨w.heap.size+1,3,none⟩ (.slice sa 1 sc)).setCell ⟨w.heap.size+1,4,none⟩ (.map (some X.heap.size)))):=aA0 (by
  have hput:∀b,b≠w.heap.size+1→(((((w2.setCell ⟨w.heap.size+1,0,none⟩ (.slice a pl c)).setCell ⟨w.heap.size+1,1,none⟩ (.string s)).setCell ⟨w.heap.size+1,2,none⟩ (.slice ta tn tc)).setCell ⟨w.heap.size+1,3,none⟩ (.slice sa 1 sc)).setCell ⟨w.heap.size+1,4,none⟩ (.map (some X.heap.size))).heap[b]?=w2.heap[b]?:=fun b hb=>aC6 _ b hb [.slice a pl c,.string s,.slice ta tn tc,.slice sa 1 sc,.map (some X.heap.size)] w2 0
  have hsz:(((((w2.setCell ⟨w.heap.size+1,0,none⟩ (.slice a pl c)).setCell ⟨w.heap.size+1,1,none⟩ (.string s)).setCell ⟨w.heap.size+1,2,none⟩ (.slice ta tn tc)).setCell ⟨w.heap.size+1,3,none⟩ (.slice sa 1 sc)).setCell ⟨w.heap.size+1,4,none⟩ (.map (some X.heap.size))).heap.size=w2.heap.size:=aCB _ [.slice a pl c,.string s,.slice ta tn tc,.slice sa 1 sc,.map (some X.heap.size)] w2 0
  have hbl:Below w.heap.size w (((((w2.setCell ⟨w.heap.size+1,0,none⟩ (.slice a pl c)).setCell ⟨w.heap.size+1,1,none⟩ (.string s)).setCell ⟨w.heap.size+1,2,none⟩ (.slice ta tn tc)).setCell ⟨w.heap.size+1,3,none⟩ (.slice sa 1 sc)).setCell ⟨w.heap.size+1,4,none⟩ (.map (some X.heap.size))):=aC4 (by omega) [.slice a pl c,.string s,.slice ta tn tc,.slice sa 1 sc,.map (some X.heap.size)] w2 0 HC.out.2
  refine⟨1,sa,sc,X.heap.size,X.heap.size+1,rfl,hbl,?_⟩
  exact aV2 HR.out hput hsz HNE.out.1 HNE.out.2 trivial HSO.out)
 go_wp2_with fail
 have h5:=HR5.out
 have hres:=fun tmps h2=>aSX _ tmps (w.heap.size+1) _ _ _ _ _ h2 h5
 refine bodyPost_ret (hres _ rfl) rfl ?_
 exact HFIN.out
theorem aQC{w:World}{base:Nat}{e:TypeId}{k:Nat}{a:Option Addr}{n c q:Nat}{xs:List Value}(h:w.ownsRow base e k (.slice a n c) q xs)(hn:n≠0):∃g,a=some ⟨g,0,none⟩∧base≤g∧g<w.heap.size:=by
 rcases h.2 with⟨e,-⟩| ⟨g,cap,cur,e,hb,hh,-⟩
 ·simp only[Value.slice.injEq] at e;omega
 ·simp only[Value.slice.injEq] at e
  obtain⟨rfl,-,-⟩:=e
  exact⟨g,rfl,hb,(Array.getElem?_eq_some_iff.1 hh).1⟩
theorem aQ4(W:World)(wa:Option Addr)(n k:Nat)(ans:Bool)(lb:Nat)(T:TypeId)(v:Value)(hv:v=.slice none 0 0)(hl:W.heap[lb]?=some (.cells #[v] T (0,0))):Calls Tryz.prog 37 (#[.slice wa n k,.bool ans]++#[.pointer (some ⟨lb,0,none⟩)]) W (aQB true lb wa n k ans W):=by
 have e:(#[.slice wa n k,.bool ans]++#[.pointer (some ⟨lb,0,none⟩)]:Array Value)=#[.slice wa n k,.bool ans,.pointer (some ⟨lb,0,none⟩)]:=by simp
 rw[e]
 subst hv
 obtain⟨c0,z0⟩:=aA1 hl 0 (by simp)
 simp only[List.getElem_toArray,List.getElem_cons_zero] at c0
 clear hl e
 cases ans
 ·go_enter Tryz.func37,Tryz.ntmps37
  go_wp2_with fail
  go_ret
  exact⟨fun _=>⟨rfl,rfl⟩,fun h=>by rcases h with h| h<;>cases h⟩
 ·go_enter Tryz.func37,Tryz.ntmps37
  go_wp2_with fail
  go_ret
  exact⟨fun h=>(by cases h.2),fun _=>⟨rfl,rfl⟩⟩
theorem aV6(args:Array Value)(W:World):Sem.run Tryz.prog (callFunc 37 args) W=Result.ok (Next.enter 37 args) W:=by kernel_rfl
theorem aIX(FW:World)(tmps:Array Value)(x y:Value)(h2:tmps.getD 2 undef=x)(h3:tmps.getD 3 undef=y):
  (results Tryz.f17 tmps).run Tryz.prog FW=.ok (.tuple #[x,y]) FW:=by
 simp only[Array.getD_eq_getD_getElem?] at h2 h3
 simp[results,Tryz.results17,go_sem,h2,h3]
def aUJ(ps:List Pt)(w:World)(e:Ending)(w':World):Prop:=∃ra rc,e=.returned (.tuple #[.bool (aGK ps),.slice ra (aDQ ps).length rc])∧Below w.heap.size w w'∧Strs w' (fun b=>w.heap.size≤b∧b<w'.heap.size) (aDQ ps) ra∧aFV w' w.heap.size w'.heap.size (aDQ ps).length ra
set_option maxRecDepth 20000 in
set_option maxHeartbeats 1600000 in
theorem aMO(ps:List Pt)(w:World)(B:Nat)(a:Option Addr)(c:Nat)(hc:ps.length≤c)(hR:aAZ w (·<B) ps a)(hB:B≤w.heap.size)(hz:∀i,i<ps.length→szP (pth ps i)≤1048576)(hG:GErr w):
  Calls Tryz.prog 17 #[.slice a ps.length c] w (aUJ ps w):=by
 have HCR:=aA0 (aQ6 ps w B a c hc hR hB hz hG)
 have HPP:Hid (∀W,Below w.heap.size w W→aAZ W (·<B) ps a):=aA0 fun W hW=>hR.under (hW.mono hB)
 have HBB:=aA0 hB
 have HND:=aA0 (aMS ps hz)
 have HWK:Hid (∀W B' base N m stop lb fid caps ta tc sv,aBK ps okP=true→Below w.heap.size w W→PRep W (·<B') (allM ps) (.agg #[.string (allM ps).name,.slice ta (allM ps).types.length tc])→B≤B'→B'≤base→RcI base N m (.slice a ps.length c) (.string (allM ps).name) (.slice ta (allM ps).types.length tc) [⟨0,qry⟩] [[]] sv W→(∀(args:Array Value) (W:World),Sem.run Tryz.prog (callFunc fid args) W=Result.ok (Next.enter fid args) W)→(∀(W':World) (wa:Option Addr) (n k:Nat) (ans:Bool),Below base W W'→Calls Tryz.prog fid (#[.slice wa n k,.bool ans]++caps) W' (aQB stop lb wa n k ans W'))→
   Calls Tryz.prog 31 #[.pointer (some ⟨N,0,none⟩),.func (.func fid) #[] caps] W (aL3 stop lb base N m (.slice a ps.length c) (.string (allM ps).name) (.slice ta (allM ps).types.length tc) ps (allM ps) W)):=aA0 fun W B' base N m stop lb fid caps ta tc sv hch hW hA hBB hbase hr hcf hT=>
  aTH ps (allM ps) W B' base N m a c ta tc sv stop lb fid caps (aEX hch).1 (aEX hch).2.1 (aEX hch).2.2 HND.out ((HPP.out W hW).sub fun b (hb:b<B)=>show b<B' by omega) hA hbase hr hcf hT
 have HRW:Hid (aDQ ps=if aBK ps okP=true then(wkE ps (allM ps)).bad else[]):=aA0 rfl
 have HRB:Hid (aGK ps=(aBK ps okP&&(wkE ps (allM ps)).bad.isEmpty)):=aA0 rfl
 have HFW:=aA0 (aHH ps)
 clear hR hB hz hG hc
 generalize hch:aBK ps okP=ch at*
 replace hch:=aA0 hch
 generalize ps.length=pl at*
 go_enter Tryz.func17,Tryz.ntmps17
 go_upto_region 2 with(
  go_at_call 29
  refine HCR.out.mono ?_
  rintro e w1 ⟨s,ta,tn,tc,rfl,b1,hP⟩)
 have nC:=aA3 (w:=w1) (N:=w1.heap.size) #[.slice a pl c,.string s,.slice ta tn tc] 61 rfl
 have bC:=aA2 w1 (.cells #[.slice a pl c,.string s,.slice ta tn tc] 61)
 have bX:=b1.trans (bC.mono b1.size)
 cases ch
 ·have HE:Hid (aDQ ps=[]∧aGK ps=false):=aA0 ⟨by rw[HRW.out,if_neg (by simp)],by rw[HRB.out];rfl⟩
  clear nC bC
  go_wp2_with fail
  refine bodyPost_ret (aIX _ _ _ _ rfl rfl) rfl ?_
  refine⟨none,0,by rw[HE.out.1,HE.out.2]<;>rfl,bX,?_⟩
  rw[HE.out.1]
  exact⟨aDS _ _ _,fun h=>by simp at h⟩
 ·have HE:Hid (aDQ ps=(wkE ps (allM ps)).bad):=aA0 (by rw[HRW.out,if_pos rfl])
  have HE2:Hid (aGK ps=decide ((wkE ps (allM ps)).bad=[])):=aA0 (by rw[HRB.out];cases (wkE ps (allM ps)).bad<;>simp)
  have hPX:PRep _ (·<w1.heap.size) (allM ps) (.agg #[.string s,.slice ta tn tc]):=((hP rfl).mono fun b hb=>bC.block b hb.2).sub fun b hb=>hb.2
  generalize w1.alloc (.cells #[.slice a pl c,.string s,.slice ta tn tc] 61)=X at*
  have hPX':=hPX
  obtain⟨ta',tc',e,-⟩:=hPX'
  simp only[Value.agg.injEq,Array.mk.injEq,List.cons.injEq,Value.string.injEq,Value.slice.injEq,and_true] at e
  obtain⟨rfl,rfl,rfl,rfl⟩:=e
  have HPX:=aA0 hPX
  have HSZ:Hid (w.heap.size≤w1.heap.size∧w1.heap.size≤X.heap.size):=aA0 ⟨b1.size,bC.size⟩
  clear hP hPX bC b1
  generalize hnm:(allM ps).name=anm at*
  generalize htl:(allM ps).types.length=atl at*
  have nL:=aA3 (w:=X) (N:=X.heap.size) #[.slice none 0 0] 33 rfl
  have bL:=aA2 X (.cells #[.slice none 0 0] 33)
  have nC2:=(bL.block w1.heap.size (by have:=(Array.getElem?_eq_some_iff.1 nC).1;exact this)).trans nC
  have zL:X.heap.size<(X.alloc (.cells #[.slice none 0 0] 33)).heap.size:=by simp
  go_upto_region 5 with fail
  generalize X.alloc (.cells #[.slice none 0 0] 33)=Q at*
  have HNW:=aA0 (aLP a pl c anm ta atl tc Q)
  obtain⟨c0,-⟩:=aA1 nC2 0 (by simp)
  obtain⟨c1,-⟩:=aA1 nC2 1 (by simp)
  obtain⟨c2,-⟩:=aA1 nC2 2 (by simp)
  simp only[List.getElem_toArray,List.getElem_cons_zero,List.getElem_cons_succ] at c0 c1 c2
  have bQ:=bX.trans (bL.mono bX.size)
  have HQ:Hid (w1.heap.size≤Q.heap.size∧X.heap.size<Q.heap.size):=aA0 (by have:=HSZ.out;omega)
  have HPQ:=aA0 (HPX.out.under (bL.mono HSZ.out.2))
  have HNL:=aA0 nL
  clear nC nC2 bL zL nL HPX
  go_upto_region 6 with(
   go_at_call 30
   refine HNW.out.mono ?_
   rintro e w2 ⟨n,sa,sc,m,N,rfl,b2,hr⟩
   have HRR:=aA0 hr
   clear hr)
  have hrb:=HRR.out.rebox
  have bR:=aA2 w2 (.cells #[.slice a pl c,.string anm,.slice ta atl tc,.slice sa n sc,.map (some m)] 66)
  have bY:=b2.trans (bR.mono b2.size)
  generalize w2.alloc (.cells #[.slice a pl c,.string anm,.slice ta atl tc,.slice sa n sc,.map (some m)] 66)=Y at*
  have HWA:=aA0 (HWK.out Y w1.heap.size Q.heap.size w2.heap.size m true X.heap.size 37 #[.pointer (some ⟨X.heap.size,0,none⟩)] ta tc (.slice sa n sc) (by first| rfl| trivial) (bQ.trans (bY.mono bQ.size)) (HPQ.out.under (bY.mono HQ.out.1)) (by have:=HBB.out;have:=HSZ.out;omega) HQ.out.1 hrb aV6 (fun W' wa n k ans hW'=>aQ4 W' wa n k ans X.heap.size 33 _ rfl ((hW'.block X.heap.size HQ.out.2).trans ((bY.block X.heap.size HQ.out.2).trans HNL.out))))
  have HBY:=aA0 bY
  have HBQ:=aA0 bQ
  clear c0 c1 c2 HWK HRR hrb bR bY bX bQ
  rw[HE.out] at HFW
  go_upto_region 7 with(
   go_at_call 31
   refine HWA.out.mono ?_
   rintro e w3 ⟨rfl,hgo,hno⟩
   have HGO:=aA0 hgo
   have HNO:=aA0 hno
   clear hgo hno)
  clear HWA
  generalize (wkE ps (allM ps)).bad=bad at*
  have hQw:=HBQ.out.size
  by_cases hbd:bad=[]
  ·obtain⟨b3,-⟩:=HGO.out (.inr hbd)
   have nL3:=(b3.block X.heap.size HQ.out.2).trans ((HBY.out.block X.heap.size HQ.out.2).trans HNL.out)
   have HL3:Hid (w3.drew.cell? ⟨X.heap.size,0,none⟩=some (.slice none 0 0)):=aA0 (aA1 nL3 0 (by simp)).1
   have HFIN:Hid (aUJ ps w (.returned (.tuple #[.bool true,.slice none 0 0])) w3.drew):=aA0 ⟨none,0,by rw[HE.out,HE2.out,hbd];rfl,(HBQ.out.trans ((HBY.out.trans b3).mono hQw)).drew,by rw[HE.out,hbd];exact aDS _ _ _,by rw[HE.out,hbd];exact fun h=>by simp at h⟩
   clear b3 nL3 hbd HGO HNO
   refine wp_region_held_drew (S:=(fun W=>W.cell? ⟨X.heap.size,0,none⟩=some (.slice none 0 0))) (by kernel_rfl) HL3.out (fun hHeld=>?_)
   refine tkH 0 hHeld ?_
   refine tkH 1 hHeld ?_
   refine tkH 2 hHeld ?_
   refine tkH 3 hHeld ?_
   refine tkH 4 hHeld ?_
   refine tkH 5 hHeld ?_
   refine wpAnyH_done (by kernel_rfl) ?_ _
   go_wp2_with fail
   have hres:=fun tmps h2 h3=>aIX w3.drew tmps (.bool true) (.slice none 0 0) h2 h3
   refine bodyPost_ret (hres _ rfl rfl) rfl ?_
   exact HFIN.out
  ·obtain⟨W,ga,gc,b3,rfl,hown⟩:=HNO.out ⟨by trivial,hbd⟩
   have nL3:=(b3.block X.heap.size HQ.out.2).trans ((HBY.out.block X.heap.size HQ.out.2).trans HNL.out)
   have hL3:=aAB nL3 0 (.slice ga bad.length gc)
   have HL3:Hid ((W.setCell ⟨X.heap.size,0,none⟩ (.slice ga bad.length gc)).drew.cell? ⟨X.heap.size,0,none⟩=some (.slice ga bad.length gc)):=aA0 (by have:=(aA1 hL3 0 (by simp)).1;simpa using this)
   have hbl:bad.length≠0:=fun e=>hbd (List.length_eq_zero_iff.1 e)
   have HFIN:Hid (aUJ ps w (.returned (.tuple #[.bool false,.slice ga bad.length gc])) (W.setCell ⟨X.heap.size,0,none⟩ (.slice ga bad.length gc)).drew):=aA0 (by
    obtain⟨g,rfl,hg1,hg2⟩:=aQC hown hbl
    have hbX:=HBQ.out.trans ((HBY.out.trans b3).mono hQw)
    have hne:g≠X.heap.size:=by have:=HQ.out.2;omega
    have ho2:(W.setCell ⟨X.heap.size,0,none⟩ (.slice (some ⟨g,0,none⟩) bad.length gc)).ownsRow Q.heap.size 9 1 (.slice (some ⟨g,0,none⟩) bad.length gc) bad.length (bad.map Value.string):=aB1 hown fun g' e=>Below.heap_setCell _ _ _ _ (by simp only[Value.ownBlock,Option.some.injEq] at e;subst e;exact hne)
    obtain⟨h1,h2,h3⟩:=aIM ho2 HFW.out.2 (by have:=HFW.out.1;unfold maxLen;omega) (by rw[aBQ];exact hg2)
    have hsq:=HSZ.out
    refine⟨some ⟨g,0,none⟩,gc,by rw[HE.out,HE2.out,decide_eq_false hbd],(hbX.setCell (p:=⟨X.heap.size,0,none⟩) (by show w.heap.size≤X.heap.size;omega) _).drew,?_,?_⟩
    ·rw[HE.out]
     exact h1.sub fun b hb=>⟨by have:=hb.1;omega,hb.2⟩
    ·rw[HE.out]
     exact fun hn=>by
      obtain⟨b,off,e,q1,q2,q3⟩:=h3 hn
      exact⟨b,off,e,by omega,q2,q3⟩)
   generalize hWW:W.setCell ⟨X.heap.size,0,none⟩ (.slice ga bad.length gc)=WW at*
   have hbi:¬(bad.length:Int)=0:=by omega
   have hbq:(((bad.length:Nat):Int)==0)=false:=beq_eq_false_iff_ne.2 hbi
   clear b3 nL3 hL3 hown hbd HGO HNO hWW
   refine wp_region_held_drew (S:=(fun W=>W.cell? ⟨X.heap.size,0,none⟩=some (.slice ga bad.length gc))) (by kernel_rfl) HL3.out (fun hHeld=>?_)
   refine tkH 0 hHeld ?_
   refine tkH 1 hHeld ?_
   refine tkH 2 hHeld ?_
   refine tkH 3 hHeld ?_
   refine tkH 4 hHeld ?_
   refine tkH 5 hHeld ?_
   refine wpAnyH_done (by kernel_rfl) ?_ _
   go_wp2_with fail
   have hres:=fun tmps h2 h3=>aIX WW.drew tmps (.bool false) (.slice ga bad.length gc) h2 h3
   refine bodyPost_ret (hres _ (by first| rfl| simp[hbq]| simp[hbi]) rfl) rfl ?_
   exact HFIN.out
end Go.Proofs.YtcebpkeiaiiphaaGreatDoor
namespace Go.Proofs.YtcebpkeiaiiphaaGreatDoor
open Go.RowKit
theorem aAM.belowR{lo hi B:Nat}{a b:World}(m:aAM lo hi a b)(hB:B≤lo)(hs:B≤a.heap.size):Below B a b:=
 ⟨m.os,m.tape,m.output,m.size,fun k hk=>m.block k (by omega) (by omega)⟩
theorem GErr.onR{w W:World}(h:GErr w)(hb:Below w.heap.size w W):GErr W:=h.on hb
theorem aRZ{ps:List Pt}(h:szPs ps≤1048576):∀i,i<ps.length→szP (pth ps i)≤1048576:=fun i hi=>by
 have h1:=aJ3 ps i ps.length hi
 have h2:szPs ps=ps.length+aF0 ps ps.length:=rfl
 omega
theorem aSF(n hi:Nat)(w0 w:World)(ra:Option Addr)(rc:Nat)(hn:n≤1000)(hw:aFV w w0.heap.size hi n ra)(hs:w0.heap.size≤w.heap.size):
  Calls Tryz.prog 19 #[.slice ra n rc,.int .i64 1] w fun e w'=>e=.returned (.int .i64 ((1+n:Nat):Int))∧Below w0.heap.size w w'∧aQP w' n 1 ra:=by
 refine(aF8 n rc 1 w0.heap.size hi ra w hw (by omega) (by omega)).mono ?_
 rintro e w' ⟨rfl,hm,hh⟩
 refine⟨rfl,hm.belowR (Nat.le_refl _) hs,fun h0=>?_⟩
 obtain⟨b,off,e,-⟩:=hw h0
 exact⟨b,off,e,hh b off e⟩
theorem aP3(n:Nat)(w:World)(ra:Option Addr)(rc:Nat)(hn:n≤1000)(h:aQP w n 1 ra):
  Calls Tryz.prog 20 #[.slice ra n rc,.int .i64 1] w fun e w'=>e=.returned (.int .i64 ((1+n:Nat):Int))∧Below w.heap.size w w':=
 aJQ n rc 1 ra w h (by omega) (by omega)
set_option maxRecDepth 20000 in
set_option maxHeartbeats 3200000 in
theorem aJO(ps:List Pt)(w:World)(ra:Option Addr)(rc:Nat)(hR:aAZ w (·<w.heap.size) ps ra)(hG:GErr w):
  Calls Tryz.prog 4 #[.slice ra ps.length rc] w fun e w'=>e=.returned (.bool true)∧Below w.heap.size w w':=by
 have HTP:=aA0 (fun W (hb:Below w.heap.size w W)=>aPU ps W w.heap.size ra rc (hR.under hb) hb.size)
 have HPz:=aA0 (aNF ps w w.heap.size ra rc 1048576 hR (Nat.le_refl _) (by omega) (by omega))
 have HGE:=aA0 (fun W (hb:Below w.heap.size w W)=>hG.onR hb)
 clear hR hG
 go_enter Tryz.func4,Tryz.ntmps4
 go_wp2_with fail
 refine HPz.out.mono ?_
 rintro e w1 ⟨y,rfl,hy0,hy1,hy2,x1⟩
 have HY:=aA0 hy2
 clear hy2 HPz
 by_cases hy:y<0
 ·go_wp2_with fail
  go_ret
  exact⟨rfl,x1⟩
 have HZ:Hid (szPs ps≤1048576):=aA0 (by have:=HY.out (by omega);omega)
 have HZE:=aA0 (aRZ HZ.out)
 have HFEW:=aA0 (aHH ps).1
 clear HY hy0 hy1
 obtain⟨L,HL⟩:∃L,Hid (aDQ ps=L):=⟨_,aA0 rfl⟩
 obtain⟨B,HB⟩:∃B,Hid (aGK ps=B):=⟨_,aA0 rfl⟩
 have hL20:L.length≤20:=by rw[←HL.out];exact HFEW.out
 have HSPEC:Hid (∀(W:World) Lo B0 a c,aAZ W (fun b=>Lo≤b∧b<B0) ps a→B0≤W.heap.size→Calls Tryz.prog 16 #[.slice a ps.length c] W fun e w'=>∃ra rc,e=.returned (.tuple #[.bool B,.slice ra L.length rc])∧Below W.heap.size W w'∧Strs w' (fun b=>W.heap.size≤b∧b<w'.heap.size) L ra):=aA0 fun W Lo B0 a c h hB=>by
  have:=aM7 ps W Lo B0 a c h hB HZE.out
  rw[HL.out,HB.out] at this
  exact this
 have HIMPL:Hid (∀(W:World) B0 a,aAZ W (·<B0) ps a→B0≤W.heap.size→GErr W→Calls Tryz.prog 17 #[.slice a ps.length ps.length] W fun e w'=>∃ra rc,e=.returned (.tuple #[.bool B,.slice ra L.length rc])∧Below W.heap.size W w'∧Strs w' (fun b=>W.heap.size≤b∧b<w'.heap.size) L ra∧aFV w' W.heap.size w'.heap.size L.length ra):=aA0 fun W B0 a h hB hG=>(aMO ps W B0 a ps.length (Nat.le_refl _) h hB HZE.out hG).mono fun e w' h=>by
  obtain⟨ra,rc,h1,h2,h3⟩:=h
  rw[HL.out,HB.out] at h1
  rw[HL.out] at h3
  exact⟨ra,rc,h1,h2,h3⟩
 have HMK:=aA0 (fun W lo hi a (hw:WPs W lo hi ps a)=>aLE ps ps.length 1 lo hi a W hw HZ.out (by omega))
 have HEQP:=aA0 (fun W B a a' (h1:aAZ W (·<B) ps a) (h2:aAZ W (·<B) ps a') (hB:B≤W.heap.size)=>aNG ps W B a a' ps.length ps.length h1 h2 hB)
 clear HZ HZE HFEW HL HB
 go_wp2_with fail
 refine(HTP.out w1 x1).mono ?_
 rintro e w2 ⟨rfl,b2,z2,hP2,-⟩
 have x2:=x1.trans (b2.mono x1.size)
 have HSp:=aA0 (HSPEC.out w2 w1.heap.size w2.heap.size _ ps.length hP2 (Nat.le_refl _))
 clear hP2 z2 b2
 go_wp2_with fail
 refine HSp.out.mono ?_
 rintro e w3 ⟨ra0,rc0,rfl,b3,hS0⟩
 have x3:=x2.trans (b3.mono x2.size)
 have HS0:=aA0 hS0
 have hz23:=b3.size
 clear hS0 HSp HSPEC b3
 go_wp2_with fail
 refine(HTP.out w3 x3).mono ?_
 rintro e w4 ⟨rfl,b4,z4,hP4,hN4⟩
 have x4:=x3.trans (b4.mono x3.size)
 have HW4:=aA0 (WPs.of_rep hP4 hN4)
 have HP4:=aA0 hP4
 have HIm:=aA0 (HIMPL.out w4 w4.heap.size _ (hP4.sub fun b hb=>hb.2) (Nat.le_refl _) (HGE.out w4 x4))
 have HB4:=aA0 b4
 have HX3:=aA0 x3
 have hz34:=b4.size
 clear hP4 hN4 b4
 go_wp2_with fail
 refine HIm.out.mono ?_
 rintro e w5 ⟨ra1,rc1,rfl,b5,hS1,hW1⟩
 have x5:=x4.trans (b5.mono x4.size)
 have HS05:=aA0 ((HS0.out.mono fun b hb=>((HB4.out.trans (b5.mono hz34)).block b hb.2)).sub fun b (hb:w2.heap.size≤b∧b<w3.heap.size)=>show b<w3.heap.size from hb.2)
 have HS1:=aA0 hS1
 have HW1:=aA0 hW1
 have HP5:=aA0 (HP4.out.mono fun b hb=>b5.block b hb.2)
 have HW5:=aA0 (HW4.out.keep (aAM.of_below 0 0 b5))
 have hz45:=b5.size
 have HE1:=aA0 (aGD L ra1 ra0 rc1 rc0 w5 _ _ HS1.out HS05.out)
 clear hS1 hW1 HIm HS0 HP4 HW4 b5 HB4
 have hBB:(B !=B)=false:=by simp
 go_wp2_with fail
 refine HE1.out.mono ?_
 rintro e w6 ⟨rfl,b6⟩
 have x6:=x5.trans (b6.mono x5.size)
 have hz56:=b6.size
 clear HE1
 go_wp2_with fail
 refine(HTP.out w6 x6).mono ?_
 rintro e w7 ⟨rfl,b7,z7,hP7,-⟩
 have x7:=x6.trans (b7.mono x6.size)
 have hz67:=b7.size
 have B57:=b6.trans (b7.mono hz56)
 have HE2:=aA0 (HEQP.out w7 w7.heap.size _ _ ((HP5.out.mono fun b hb=>B57.block b (by have:=hb.2;omega)).sub fun b (hb:w3.heap.size≤b∧b<w4.heap.size)=>show b<w7.heap.size by omega) (hP7.sub fun b hb=>hb.2) (Nat.le_refl _))
 clear hP7 HEQP b6 b7 z7
 go_wp2_with fail
 refine HE2.out.mono ?_
 rintro e w8 ⟨rfl,b8⟩
 have x8:=x7.trans (b8.mono x7.size)
 have hz78:=b8.size
 have B58:=B57.trans (b8.mono (by omega))
 have HM8:=aA0 (HMK.out w8 w3.heap.size w4.heap.size _ (HW5.out.keep (aAM.of_below 0 0 B58)))
 clear HE2 HMK HW5 HP5 b8 B57
 go_wp2_with fail
 refine HM8.out.mono ?_
 rintro e w9 ⟨rfl,m9⟩
 have hx3:=HX3.out.size
 have x9:=x8.trans (m9.belowR (B:=w.heap.size) hx3 (by omega))
 have hz89:=m9.size
 have HS09:=aA0 ((HS05.out.mono fun b (hb:b<w3.heap.size)=>(m9.block b (by omega) (by omega)).trans (B58.block b (by omega))))
 have HS19:=aA0 (HS1.out.mono fun b (hb:w4.heap.size≤b∧b<w5.heap.size)=>(m9.block b (by omega) (by omega)).trans (B58.block b hb.2))
 have HW19:=aA0 ((HW1.out.keep (aAM.of_below 0 0 B58)).keep m9)
 have HE3:=aA0 (aGD L ra1 ra0 rc1 rc0 w9 _ _ HS19.out HS09.out)
 have hk0:¬((1+mPs ps ps.length:Nat):Int)<0:=by omega
 clear HM8 HS05 HS1 HW1 m9 B58
 generalize (1+mPs ps ps.length:Nat)=kk at*
 go_wp2_with fail
 refine HE3.out.mono ?_
 rintro e w10 ⟨rfl,b10⟩
 have x10:=x9.trans (b10.mono x9.size)
 have hz910:=b10.size
 have HMS:=aA0 (aSF L.length _ w4 w10 ra1 rc1 (by omega) (HW19.out.keep (aAM.of_below 0 0 b10)) (by omega))
 have HS0A:=aA0 (HS09.out.mono fun b (hb:b<w3.heap.size)=>b10.block b (by omega))
 clear HE3 HW19 HS19 HS09 b10 hk0
 go_wp2_with fail
 refine HMS.out.mono ?_
 rintro e w11 ⟨rfl,b11,hm11⟩
 have x11:=x10.trans (b11.mono (by omega))
 have hz1011:=b11.size
 have HS0B:=aA0 (HS0A.out.mono fun b (hb:b<w3.heap.size)=>b11.block b (by omega))
 have HH1:=aA0 (aP3 L.length w11 ra1 rc1 (by omega) hm11)
 have HMM:=aA0 hm11
 clear hm11 b11 HMS HS0A
 obtain⟨mm,hmm⟩:∃x:Int,x=((1+L.length:Nat):Int):=⟨_,rfl⟩
 have hm0:¬mm<0:=by omega
 rw[←hmm] at HH1 ⊢
 have HHM:=aA0 hmm
 clear hmm
 go_wp2_with fail
 refine HH1.out.mono ?_
 rintro e w12 ⟨rfl,b12⟩
 have x12:=x11.trans (b12.mono x11.size)
 have hz1112:=b12.size
 clear HH1
 go_wp2_with fail
 refine(HTP.out w12 x12).mono ?_
 rintro e w13 ⟨rfl,b13,z13,hP13,-⟩
 have x13:=x12.trans (b13.mono x12.size)
 have hz1213:=b13.size
 have HI2:=aA0 (HIMPL.out w13 w13.heap.size _ (hP13.sub fun b hb=>hb.2) (Nat.le_refl _) (HGE.out w13 x13))
 clear hP13 HIMPL z13
 go_wp2_with fail
 refine HI2.out.mono ?_
 rintro e w14 ⟨ra2,rc2,rfl,b14,hS2,-⟩
 have x14:=x13.trans (b14.mono x13.size)
 have hz1314:=b14.size
 have B1114:=b12.trans ((b13.trans (b14.mono hz1213)).mono hz1112)
 have HE4:=aA0 (aGD L ra2 ra0 rc2 rc0 w14 _ _ hS2 (HS0B.out.mono fun b (hb:b<w3.heap.size)=>B1114.block b (by omega)))
 clear hS2 HI2 b12 b13 b14 HS0B
 go_wp2_with fail
 refine HE4.out.mono ?_
 rintro e w15 ⟨rfl,b15⟩
 have x15:=x14.trans (b15.mono x14.size)
 have HH2:Hid (Calls Tryz.prog 20 #[.slice ra1 L.length rc1,.int .i64 1] w15 fun e w'=>e=.returned (.int .i64 mm)∧Below w15.heap.size w15 w'):=aA0 (by rw[HHM.out];exact aP3 L.length w15 ra1 rc1 (by omega) ((HMM.out.keep B1114).keep b15))
 clear HE4 b15 B1114 HMM
 go_wp2_with fail
 refine HH2.out.mono ?_
 rintro e w16 ⟨rfl,b16⟩
 have x16:=x15.trans (b16.mono x15.size)
 clear HH2
 go_wp2_with fail
 go_ret
 exact⟨rfl,x16⟩
end Go.Proofs.YtcebpkeiaiiphaaGreatDoor
