import Derived.Test.YtokmgbidmnanpaaGreatDoorQ1
import Derived.Test.YtokmgbidmnanpaaGreatDoorQ34
import Derived.Test.YtokmgbidmnanpaaGreatDoorQ9
import Derived.Test.YtokmgbidmnanpaaGreatDoorQ48
import Derived.Test.YtokmgbidmnanpaaGreatDoorQ14
import Derived.Test.YtokmgbidmnanpaaGreatDoorQ6
import Derived.Deep.RegionHeld3
import Derived.Deep.DeepCutAuto
import Derived.BigRegion
set_option linter.unusedSimpArgs false
set_option linter.unusedVariables false
namespace Go.Proofs.YtokmgbidmnanpaaGreatDoor
open Go.RowKit Go.Shelf Go.Maps
attribute [local go_sem] Oper.semAt_some
def aLE(p:Pt):Prop:=∀i,i<p.types.length→0<(tth p.types i).fields.length
def aJF(w:World)(rb cb q0 d:Nat)(e:Ending)(w':World):Prop:=∃(ks:List Se) (a:Option Addr) (c q':Nat),e=.returned (.slice a ks.length c)∧aAA w' (fun b=>w.heap.size≤b∧b<w'.heap.size∧aBK w' b) ks a∧RdOk w' rb cb q'∧(q'≤q0+pkN d∧ks.length≤c)∧Only (·=rb) w w'∧aFV d ks
theorem SSt.fin{w:World}{rb cb d:Nat}{K:Nat→Prop}{w3:World}{q q0:Nat}{es:List El}{o:Value}{wr:World}(h:SSt w rb cb d K w3 q es o wr)(hl:es.length≤3)(hq:q≤q0+pkN (d+1)):aJF w rb cb q0 (d+1) (.returned o) wr:=by
 obtain⟨a,c,e,hR,hcap⟩:=h.row.repsA (by omega) (fun e he=>by have:=(h.own e he).2;have h1:=this.1;have h2:=this.2.1;unfold maxLen;exact⟨by omega,by omega⟩) (fun e he b hb=>(h.own e he).1 b hb) h.form
 have hm:(es.map El.s).length=es.length:=by simp
 exact⟨es.map El.s,a,c,q,by rw[hm,e],hR,h.rd,⟨hq,by rw[hm];exact hcap⟩,h.only,aFV.of (by rw[hm];exact hl) fun s hs=>by obtain⟨x,hx,rfl⟩:=List.mem_map.1 hs;exact(h.own x hx).2⟩
theorem SSt.start{w:World}{rb cb d q:Nat}{K:Nat→Prop}{w3:World}{g:Nat}(hR:RdOk w3 rb cb q)(hb:Below w.heap.size w w3)(hr:rb<w.heap.size)(hc:cb<w.heap.size)(hg:w.heap.size≤g)(hn:w3.heap[g]?=some (.cells #[] 56 (0,0)))(hK:∀b,K b→b≠g∧b<w3.heap.size∧w.heap.size≤b):SSt w rb cb d K w3 q [] (.slice (some ⟨g,0,none⟩) 0 0) w3:=
 ⟨hR,⟨⟨rfl,Or.inr ⟨g,0,#[],rfl,hg,hn,Nat.le_refl _,Nat.zero_le _,by simp,by simp⟩⟩,fun e he=>(by cases he)⟩,fun e he=>(by cases he),Only.of_below _ hb,fun b hb2=>⟨rfl,fun e=>(hK b hb2).1 (Option.some.inj e).symm,(hK b hb2).2⟩,⟨g,0,rfl⟩,hr,hc⟩
theorem aJF.no{w w':World}{rb cb q0 d g:Nat}(hR:RdOk w rb cb q0)(hb:Below w.heap.size w w'):aJF w rb cb q0 d (.returned (.slice (some ⟨g,0,none⟩) 0 0)) w':=
 ⟨[],some ⟨g,0,none⟩,0,q0,rfl,⟨by simp,fun _ _=>.bool false,fun hn=>by simp at hn,fun i hi=>by simp at hi⟩,hR.only (Only.of_below (fun _=>False) hb) id id,⟨by omega,by simp⟩,Only.of_below _ hb,aFV.nil d⟩
theorem aPK{W:World}{N:Nat}{T:TypeId}{a0 a1 a2 a3 a4 a5 a6 a7:Value}(h:W.heap[N]?=some (.cells #[a0,a1,a2,a3,a4,a5,a6,a7] T (0,0)))(v0 v1 v2 v3 v4 v5 v6 v7:Value)(F:World)
  (hF:F=(((((((W.setCell ⟨N,0,none⟩ v0).setCell ⟨N,1,none⟩ v1).setCell ⟨N,2,none⟩ v2).setCell ⟨N,3,none⟩ v3).setCell ⟨N,4,none⟩ v4).setCell ⟨N,5,none⟩ v5).setCell ⟨N,6,none⟩ v6).setCell ⟨N,7,none⟩ v7):
  F.heap[N]?=some (.cells #[v0,v1,v2,v3,v4,v5,v6,v7] T (0,0))∧(∀b,b≠N→F.heap[b]?=W.heap[b]?)∧F.heap.size=W.heap.size∧∀(O:Nat→Prop) (a:World),Only O a W→a.heap.size≤N→Only O a F:=by
 subst hF
 refine⟨by simpa using aA9 (aA9 (aA9 (aA9 (aA9 (aA9 (aA9 (aA9 h 0 v0) 1 v1) 2 v2) 3 v3) 4 v4) 5 v5) 6 v6) 7 v7,fun b hb=>?_,by simp,fun O a ho hN=>(((((((ho.set _ _ (Or.inr hN) _).set _ _ (Or.inr hN) _).set _ _ (Or.inr hN) _).set _ _ (Or.inr hN) _).set _ _ (Or.inr hN) _).set _ _ (Or.inr hN) _).set _ _ (Or.inr hN) _).set _ _ (Or.inr hN) _⟩
 rw[Below.heap_setCell _ _ _ _ hb,Below.heap_setCell _ _ _ _ hb,Below.heap_setCell _ _ _ _ hb,Below.heap_setCell _ _ _ _ hb,Below.heap_setCell _ _ _ _ hb,Below.heap_setCell _ _ _ _ hb,Below.heap_setCell _ _ _ _ hb,Below.heap_setCell _ _ _ _ hb]
structure RSs(rb cb:Nat)(wR:World)(q FB SB:Nat)(f8 s5:Array Value)(W:World):Prop where
 rd:RdOk W rb cb q
 only:Only (·=rb) wR W
 fb:W.heap[FB]?=some (.cells f8 54 (0,0))
 sb:W.heap[SB]?=some (.cells s5 56 (0,0))
 fge:wR.heap.size≤FB
 sge:wR.heap.size≤SB
 ne:FB≠SB
 rlt:rb<wR.heap.size
 clt:cb<wR.heap.size
theorem RSs.move{rb cb:Nat}{wR:World}{q q' FB SB:Nat}{f8 s5:Array Value}{W W':World}(h:RSs rb cb wR q FB SB f8 s5 W)(hr:RdOk W' rb cb q')(ho:Only (·=rb) W W'):RSs rb cb wR q' FB SB f8 s5 W':=by
 have h1:=h.fge
 have h2:=h.sge
 have h3:=h.rlt
 exact⟨hr,h.only.trans ho fun _ _ q=>q,(ho.block FB (Array.getElem?_eq_some_iff.1 h.fb).1 (by omega)).trans h.fb,(ho.block SB (Array.getElem?_eq_some_iff.1 h.sb).1 (by omega)).trans h.sb,h1,h2,h.ne,h3,h.clt⟩
theorem RSs.below{rb cb:Nat}{wR:World}{q FB SB:Nat}{f8 s5:Array Value}{W W':World}(h:RSs rb cb wR q FB SB f8 s5 W)(hb:Below W.heap.size W W'):RSs rb cb wR q FB SB f8 s5 W':=
 h.move (h.rd.only (Only.of_below (fun _=>False) hb) id id) (Only.of_below _ hb)
theorem RSs.set{rb cb:Nat}{wR:World}{q FB SB:Nat}{f8 s5:Array Value}{W:World}(h:RSs rb cb wR q FB SB f8 s5 W)(i:Nat)(v:Value):RSs rb cb wR q FB SB f8 (s5.setIfInBounds i v) (W.setCell ⟨SB,i,none⟩ v):=by
 have h1:=h.fge
 have h2:=h.sge
 have h3:=h.rlt
 have h4:=h.clt
 have hk:∀b,b≠SB→(W.setCell ⟨SB,i,none⟩ v).heap[b]?=W.heap[b]?:=fun b hb=>Below.heap_setCell _ _ _ _ hb
 exact⟨h.rd.keep (hk _ (by omega)) (hk _ (by omega)) (by simp),h.only.set _ _ (Or.inr h2) _,(hk _ h.ne).trans h.fb,aA9 h.sb i v,h1,h2,h.ne,h3,h4⟩
theorem SSt.cells{w:World}{rb cb d q g cap:Nat}{K:Nat→Prop}{w3 wr:World}{es:List El}(h:SSt w rb cb d K w3 q es (.slice (some ⟨g,0,none⟩) es.length cap) wr)(i:Nat)(hi:i<es.length):aHP wr g (i*5) (es[i]).s (es[i]).ka (es[i]).kc∧g<wr.heap.size:=by
 have hc:∀j,j<5→wr.cell? ⟨g,i*5+j,none⟩=(es[i]).cells[j]?:=fun j hj=>by rw[h.row.row.cellAt (i*5+j) (by omega),aH9 es i j hi hj]
 have hl:=h.row.row.lt g rfl
 exact⟨⟨hc 0 (by omega),hc 1 (by omega),hc 2 (by omega),hc 3 (by omega),hc 4 (by omega)⟩,hl.2⟩
set_option maxRecDepth 20000 in
set_option maxHeartbeats 3200000 in
theorem aO6:∀(d D:Nat),D+d=6→∀(w:World) (rb cb q0:Nat) (p:Pt) (P:Nat→Prop) (v:Value) (nm:ByteArray),RdOk w rb cb q0→q0+pkN d≤100000→PRep w P p v→(∀b,P b→b<w.heap.size∧b≠rb)→aLE p→szP p≤1048576→
  Calls Tryz.prog 97 #[.pointer (some ⟨rb,0,none⟩),v,.string nm,.int .i64 (D:Nat)] w (aJF w rb cb q0 d):=by
 intro d
 induction d with
 |zero=>
  intro D hD w rb cb q0 p P v nm hR hq hP hPb hF hz
  obtain rfl:D=6:=by omega
  have HL:=aA0 (fun W (hW:Below w.heap.size w W)=>aCU p W w.heap.size v nm ((hP.mono fun b hb=>hW.block b (hPb b hb).1).sub fun b hb=>(hPb b hb).1) hW.size)
  have HR:=aA0 hR
  obtain⟨ta,tc,rfl,-⟩:=hP
  have bw:=aA5 w (.cells #[.string p.name,.slice ta p.types.length tc] 43) (.cells #[] 56)
  rcases aAB (fun i=>(tth p.types i).name.toList==nm.toList) p.types.length with⟨h2,-⟩| ⟨g,h2,hg,-,-⟩
  all_goals
   rw[h2] at HL
   clear h2 hR hPb
   go_enter Tryz.func97,Tryz.ntmps97
   go_wp2_with (
    go_at_call 112
    refine(HL.out _ bw).mono ?_
    rintro e w1 ⟨rfl,b1⟩
    have b1:=bw.trans (b1.mono bw.size))
   go_ret
   exact aJF.no HR.out b1
 |succ d IH=>
  intro D hD w rb cb q0 p P v nm hR hq hP hPb hF hz
  obtain⟨hr1,hr2,hr3⟩:=hR.lt
  have HL:=aA0 (fun W (hW:Below w.heap.size w W)=>aCU p W w.heap.size v nm ((hP.mono fun b hb=>hW.block b (hPb b hb).1).sub fun b hb=>(hPb b hb).1) hW.size)
  have HR:=aA0 hR
  have HPW:Hid (∀W,Only (·=rb) w W→PRep W P p v):=aA0 fun W hW=>hP.mono fun b hb=>hW.block b (hPb b hb).1 (hPb b hb).2
  have HPB:=aA0 hPb
  have HF:=aA0 hF
  have HZ:=aA0 hz
  have HQ:Hid (q0+pkN (d+1)≤100000∧pkN (d+1)=1+3*(8+pkN d)):=aA0 ⟨hq,rfl⟩
  obtain⟨ta,tc,rfl,⟨-,C,hA,hr⟩,htc,hsn⟩:=hP
  have bw:=aA5 w (.cells #[.string p.name,.slice ta p.types.length tc] 43) (.cells #[] 56)
  rcases aAB (fun i=>(tth p.types i).name.toList==nm.toList) p.types.length with⟨h2,-⟩| ⟨g,h2,hg,-,-⟩
  ·rw[h2] at HL
   clear h2 hR hPb hF hA hr hq
   go_enter Tryz.func97,Tryz.ntmps97
   go_wp2_with (
    go_at_call 112
    refine(HL.out _ bw).mono ?_
    rintro e w1 ⟨rfl,b1⟩
    have b1:=bw.trans (b1.mono bw.size))
   go_ret
   exact aJF.no HR.out b1
  rw[h2] at HL
  obtain⟨b,off,rfl,hbP,hc⟩:=hA (by omega)
  obtain⟨fa,fcp,he,⟨-,Df,hAD,hrD⟩,hfc2,htn,htk⟩:=hr g hg
  simp only[Value.agg.injEq,Array.mk.injEq,List.cons.injEq,and_true] at he
  obtain⟨k0,k1,k2⟩:=he
  have hfl0:=hF g hg
  obtain⟨fb,fo,rfl,hfbP,hfcell⟩:=hAD hfl0
  have HTC:Hid (∀W,Only (·=rb) w W→W.cell? ⟨b,off+g*3,none⟩=some (.string (tth p.types g).name)∧W.cell? ⟨b,off+g*3+1,none⟩=some (.string (tth p.types g).key)∧W.cell? ⟨b,off+g*3+2,none⟩=some (.slice (some ⟨fb,fo,none⟩) (tth p.types g).fields.length fcp)):=aA0 fun W hW=>by
   have h0:=hc g hg 0 (by omega)
   have h1:=hc g hg 1 (by omega)
   have h2:=hc g hg 2 (by omega)
   rw[k0,Nat.add_zero] at h0
   rw[k1] at h1
   rw[k2] at h2
   have hbk:=hW.block b (hPb b hbP).1 (hPb b hbP).2
   exact⟨(World.cell?_of_block (a:=⟨b,off+g*3,none⟩) hbk).trans h0,(World.cell?_of_block (a:=⟨b,off+g*3+1,none⟩) hbk).trans h1,(World.cell?_of_block (a:=⟨b,off+g*3+2,none⟩) hbk).trans h2⟩
  have HFC:Hid (∀x,x<(tth p.types g).fields.length→∃(f:F) (na:Option Addr) (nc:Nat),f.name.size≤1048576∧∀W,Only (·=rb) w W→W.cell? ⟨fb,fo+x*8,none⟩=some (.string f.name)∧W.cell? ⟨fb,fo+x*8+1,none⟩=some (.string f.of)∧W.cell? ⟨fb,fo+x*8+2,none⟩=some (.bool f.list)∧W.cell? ⟨fb,fo+x*8+3,none⟩=some (.bool f.must)∧W.cell? ⟨fb,fo+x*8+4,none⟩=some (.bool f.far)∧W.cell? ⟨fb,fo+x*8+5,none⟩=some (.bool f.hidden)∧W.cell? ⟨fb,fo+x*8+6,none⟩=some (.bool f.shared)∧W.cell? ⟨fb,fo+x*8+7,none⟩=some (.slice na f.needs.length nc)):=aA0 fun x hx=>by
   obtain⟨na,nc,he,-⟩:=hrD x hx
   simp only[Value.agg.injEq,Array.mk.injEq,List.cons.injEq,and_true] at he
   obtain⟨e0,e1,e2,e3,e4,e5,e6,e7⟩:=he
   have hcx:=hfcell x hx
   refine⟨fth (tth p.types g).fields x,na,nc,?_,fun W hW=>?_⟩
   ·have h1:=aEL p.types g p.types.length hg
    have h2:=aH1 (tth p.types g).fields x _ hx
    have h3:szP p=p.name.size+(p.types.length+aBT p.types p.types.length):=rfl
    have h4:szT (tth p.types g)=(tth p.types g).name.size+(tth p.types g).key.size+((tth p.types g).fields.length+aBY (tth p.types g).fields (tth p.types g).fields.length):=rfl
    have h5:szF (fth (tth p.types g).fields x)=(fth (tth p.types g).fields x).name.size+(fth (tth p.types g).fields x).of.size+szNs (fth (tth p.types g).fields x).needs:=rfl
    omega
   ·have hbk:=hW.block fb (hPb fb hfbP).1 (hPb fb hfbP).2
    have hk:∀j,j<8→W.cell? ⟨fb,fo+x*8+j,none⟩=some (Df x j):=fun j hj=>(World.cell?_of_block (a:=⟨fb,fo+x*8+j,none⟩) hbk).trans (hcx j hj)
    rw[←e0,←e1,←e2,←e3,←e4,←e5,←e6,←e7]
    exact⟨hk 0 (by omega),hk 1 (by omega),hk 2 (by omega),hk 3 (by omega),hk 4 (by omega),hk 5 (by omega),hk 6 (by omega),hk 7 (by omega)⟩
  obtain⟨fl,hfl⟩:∃n,n=(tth p.types g).fields.length:=⟨_,rfl⟩
  have hflb:fl≤1048576:=by
   have h1:=aEL p.types g p.types.length hg
   have h3:szP p=p.name.size+(p.types.length+aBT p.types p.types.length):=rfl
   have h4:szT (tth p.types g)=(tth p.types g).name.size+(tth p.types g).key.size+((tth p.types g).fields.length+aBY (tth p.types g).fields (tth p.types g).fields.length):=rfl
   omega
  rw[←hfl] at HTC HFC hfl0
  generalize (tth p.types g).name=tn at*
  generalize (tth p.types g).key=tk at*
  clear h2 hR hPb hF hA hr hq hc hAD hrD k0 k1 k2 hfcell htc hsn hz hfc2 htn htk hfl hbP hfbP
  have hg0:¬(g:Int)<0:=by omega
  have hgl:(g:Int)<(p.types.length:Int):=by omega
  have hD5:¬(5:Int)<(D:Int):=by omega
  go_enter Tryz.func97,Tryz.ntmps97
  go_upto_region 6 with(
   go_at_call 112
   refine(HL.out _ bw).mono ?_
   rintro e w1 ⟨rfl,b1⟩
   have bk1:=b1
   have b1:=bw.trans (b1.mono bw.size)
   obtain⟨t0,t1,t2⟩:=HTC.out w1 (Only.of_below _ b1)
   have p1:=(aA1 ((bk1.block w.heap.size (by simp;omega)).trans (((aA2 _ _).block w.heap.size (by simp)).trans (aA3 (w:=w) #[.string p.name,.slice (some ⟨b,off,none⟩) p.types.length tc] 43 rfl))) 1 (by simp)).1
   simp only[List.getElem_toArray,List.getElem_cons_zero,List.getElem_cons_succ] at p1)
  have z1:w.heap.size+1+1≤w1.heap.size:=by have:=bk1.size;simpa using this
  have nP:=(bk1.block w.heap.size (by simp;omega)).trans (((aA2 _ _).block w.heap.size (by simp)).trans (aA3 (w:=w) #[.string p.name,.slice (some ⟨b,off,none⟩) p.types.length tc] 43 rfl))
  have nO:w1.heap[w.heap.size+1]?=some (.cells #[] 56 (0,0)):=(bk1.block (w.heap.size+1) (by simp)).trans (aA3 _ _ (by simp))
  have bT:=aA2 w1 (.cells #[.string tn,.string tk,.slice (some ⟨fb,fo,none⟩) fl fcp] 52)
  have nT:=aA3 (w:=w1) (N:=w1.heap.size) #[.string tn,.string tk,.slice (some ⟨fb,fo,none⟩) fl fcp] 52 rfl
  have hT3:w1.heap.size<(w1.alloc (.cells #[.string tn,.string tk,.slice (some ⟨fb,fo,none⟩) fl fcp] 52)).heap.size:=by simp
  generalize w1.alloc (.cells #[.string tn,.string tk,.slice (some ⟨fb,fo,none⟩) fl fcp] 52)=w3 at*
  have b3:Below w.heap.size w w3:=b1.trans (bT.mono (by omega))
  have nP3:=(bT.block w.heap.size (by omega)).trans nP
  have nO3:=(bT.block (w.heap.size+1) (by omega)).trans nO
  have hR3:=HR.out.only (Only.of_below (fun _=>False) b3) id id
  have HS3:=aA0 (SSt.start (d:=d) (K:=fun x=>x=w.heap.size∨x=w1.heap.size) hR3 b3 hr1 hr2 (Nat.le_succ _) nO3 (fun x hx=>by rcases hx with rfl| rfl<;>exact⟨by omega,by omega,by omega⟩))
  have HPK:=aA0 (aBA w3 rb cb q0 3 hR3 (by have:=HQ.out.1;omega) (by omega) (by omega))
  have HKB:Hid (∀{q es o W},SSt w rb cb d (fun x=>x=w.heap.size∨x=w1.heap.size) w3 q es o W→W.heap[w.heap.size]?=some (.cells #[.string p.name,.slice (some ⟨b,off,none⟩) p.types.length tc] 43 (0,0))∧W.heap[w1.heap.size]?=some (.cells #[.string tn,.string tk,.slice (some ⟨fb,fo,none⟩) fl fcp] 52 (0,0))∧w1.heap.size<W.heap.size):=aA0 fun h=>⟨(h.kept _ (Or.inl rfl)).1.trans nP3,(h.kept _ (Or.inr rfl)).1.trans nT,(h.kept _ (Or.inr rfl)).2.2.1⟩
  clear t0 t1 t2 p1 bk1 nP nO bT nT nP3 nO3 hR3 HL b1 hg0 hgl hD5
  go_upto_region 7 with(
   go_at_call 56
   refine HPK.out.mono ?_
   rintro e w4 ⟨x,rfl,hx,r4,o4,z4⟩)
  have hx3:x<3:=by omega
  have HS4:=aA0 (HS3.out.move r4 o4)
  clear HPK r4 o4 hx HS3
  go_loopw [9,12] (fun o n wr=>∃(k q2:Nat) (es:List El),n=.int .i64 (k:Int)∧es.length+k≤3∧q2+k*(8+pkN d)≤q0+pkN (d+1)∧Hid (SSt w rb cb d (fun x=>x=w.heap.size∨x=w1.heap.size) w3 q2 es o wr)) (fun _ n _=>(intOf n).toNat)
  case atStart=>exact⟨1+x,q0+1,[],by first| rfl| (congr 1;omega),by simp;omega,by rw[HQ.out.2];have:(1+x)*(8+pkN d)≤3*(8+pkN d):=Nat.mul_le_mul_right _ (by omega);omega,HS4⟩
  case round=>
   clear HS4
   obtain⟨k,q2,es,rfl,hek,hqk,HS⟩:=hrel
   obtain⟨wR,rfl⟩:∃x,x=wr:=⟨wr,rfl⟩
   rcases Nat.eq_zero_or_pos k with rfl| hk
   ·have HFIN:=aA0 (HS.out.fin (q0:=q0) (by omega) (by omega))
    go_wp2_with fail
    go_ret
    exact HFIN.out
   have hki:(0:Int)<(k:Int):=by omega
   have hqb:q2+(8+pkN d)≤100000:=by have h1:=HQ.out.1;have h2:1*(8+pkN d)≤k*(8+pkN d):=Nat.mul_le_mul_right _ hk;omega
   have HBD:Hid (∀q',q'≤q2+(8+pkN d)→q'+(k- 1)*(8+pkN d)≤q0+pkN (d+1)):=aA0 fun q' hq'=>by
    have h1:k*(8+pkN d)=(k- 1)*(8+pkN d)+(8+pkN d):=by
     obtain⟨m,rfl⟩:∃m,k=m+1:=⟨k- 1,by omega⟩
     rw[Nat.add_sub_cancel,Nat.succ_mul]
    omega
   obtain⟨nP,nT,hTl⟩:=HKB.out HS.out
   have hwR:=HS.out.only.size
   have HPKF:=aA0 (fun W (hW:RdOk W rb cb q2)=>aBA W rb cb q2 (fl:Int) hW (by omega) (by omega) (by omega))
   have HWO:Hid (∀W,Only (·=rb) wR W→Only (·=rb) w W):=aA0 fun W hW=>HS.out.only.trans hW fun _ _ q=>q
   have HTB:Hid (∀W,Only (·=rb) wR W→W.cell? ⟨w1.heap.size,2,none⟩=some (.slice (some ⟨fb,fo,none⟩) fl fcp)):=aA0 fun W hW=>(aA1 ((hW.block _ hTl (by omega)).trans nT) 2 (by simp)).1
   have HPB2:Hid (∀W,Only (·=rb) wR W→W.cell? ⟨w.heap.size,0,none⟩=some (.string p.name)∧W.cell? ⟨w.heap.size,1,none⟩=some (.slice (some ⟨b,off,none⟩) p.types.length tc)):=aA0 fun W hW=>⟨(aA1 ((hW.block _ (by omega) (by omega)).trans nP) 0 (by simp)).1,(aA1 ((hW.block _ (by omega) (by omega)).trans nP) 1 (by simp)).1⟩
   go_upto_region 9 with fail
   clear nP nT
   go_cut [13] (fun r wx=>∃(FB:Nat) (f:F) (na:Option Addr) (nc:Nat),r=.pointer (some ⟨FB,0,none⟩)∧f.name.size≤1048576∧wR.heap.size≤FB∧Hid (RdOk wx rb cb (q2+1)∧Only (·=rb) wR wx∧wx.heap[FB]?=some (.cells #[.string f.name,.string f.of,.bool f.list,.bool f.must,.bool f.far,.bool f.hidden,.bool f.shared,.slice na f.needs.length nc] 54 (0,0))))
   case first=>
    refine wp_region_held_drew (S:=(fun w'=>w'.cell? ⟨w1.heap.size,2,none⟩=some (.slice (some ⟨fb,fo,none⟩) fl fcp))) (by kernel_rfl) (HTB.out _ (by exact⟨rfl,rfl,rfl,Nat.le_refl _,fun _ _ _=>rfl⟩)) (fun hHeld=>?_)
    have oX:Only (·=rb) wR wR.drew:=⟨rfl,rfl,rfl,Nat.le_refl _,fun _ _ _=>rfl⟩
    have rX:RdOk wR.drew rb cb q2:=HS.out.rd.keep rfl rfl (Nat.le_refl _)
    generalize wR.drew=wE0 at*
    refine tkH 0 hHeld ?_
    refine tkH 1 hHeld ?_
    refine tkH 2 hHeld ?_
    refine tkH 3 hHeld ?_
    refine tkH 4 hHeld ?_
    refine tkH 5 hHeld ?_
    refine rdyH [6,9] ?_
    refine rcH (fun K hK=>?_) ?_
    ·go_simp
     refine(HPKF.out wE0 rX).mono ?_
     rintro e wC ⟨x,rfl,hx,rX,oC,zC⟩
     have oX:=oX.trans oC (fun _ _ q=>q)
     have hxl:x<fl:=by omega
     have hxi:(x:Int)<(fl:Int):=by omega
     obtain⟨f,na,nc,hfn,HCX⟩:=HFC.out x hxl
     have HCX:=aA0 HCX
     clear hx zC
     refine hK.out _ _ (HTB.out _ oX) (fun hHeld=>?_)
     clear hK K
     try simp only[Act.put,List.setIfInBounds_toArray,List.set_cons_zero,List.set_cons_succ]
     refine tkH 7 hHeld ?_
     refine rdyH [8,9] ?_
     refine rcH (fun K hK=>?_) ?_
     ·obtain⟨l0,l1,l2,l3,l4,l5,l6,l7⟩:=HCX.out wC (HWO.out _ oX)
      go_simp
      clear l0 l1 l2 l3 l4 l5 l6 l7
      refine hK.out _ _ (HTB.out _ oX) (fun hHeld=>?_)
      clear hK K
      try simp only[Act.put,List.setIfInBounds_toArray,List.set_cons_zero,List.set_cons_succ]
      refine rdyH [9] ?_
      refine rcH (fun K hK=>?_) AllReadyH.nil
      go_simp
      have bA:=aA2 wC (.cells #[.string ⟨#[]⟩,.string ⟨#[]⟩,.bool false,.bool false,.bool false,.bool false,.bool false,.slice none 0 0] 54)
      obtain⟨gA,hgA⟩:∃g,g=wC.heap.size:=⟨_,rfl⟩
      have nA:=aA3 (w:=wC) (N:=gA) #[.string ⟨#[]⟩,.string ⟨#[]⟩,.bool false,.bool false,.bool false,.bool false,.bool false,.slice none 0 0] 54 hgA.symm
      have qA:wR.heap.size≤gA:=by have:=oX.size;omega
      have oX:=oX.trans (Only.of_below (·=rb) bA) (fun _ _ q=>q)
      have rX:=rX.only (Only.of_below (fun _=>False) bA) id id
      refine hK.out _ _ (HTB.out _ oX) (fun hHeld=>?_)
      clear hK K
      try simp only[Act.put,List.setIfInBounds_toArray,List.set_cons_zero,List.set_cons_succ]
      rw[←hgA]
      generalize wC.alloc (.cells #[.string ⟨#[]⟩,.string ⟨#[]⟩,.bool false,.bool false,.bool false,.bool false,.bool false,.slice none 0 0] 54)=wA at*
      clear hgA bA
      refine rdyH [10] ?_
      refine rcH (fun K hK=>?_) AllReadyH.nil
      obtain⟨y0,g0⟩:=aA1 nA 0 (by simp)
      obtain⟨y1,g1⟩:=aA1 nA 1 (by simp)
      obtain⟨y2,g2⟩:=aA1 nA 2 (by simp)
      obtain⟨y3,g3⟩:=aA1 nA 3 (by simp)
      obtain⟨y4,g4⟩:=aA1 nA 4 (by simp)
      obtain⟨y5,g5⟩:=aA1 nA 5 (by simp)
      obtain⟨y6,g6⟩:=aA1 nA 6 (by simp)
      obtain⟨y7,g7⟩:=aA1 nA 7 (by simp)
      go_simp
      clear y0 g0 y1 g1 y2 g2 y3 g3 y4 g4 y5 g5 y6 g6 y7 g7
      refine hK.out _ _ (HTB.out _ ((aPK nA (.string f.name) (.string f.of) (.bool f.list) (.bool f.must) (.bool f.far) (.bool f.hidden) (.bool f.shared) (.slice na f.needs.length nc) _ rfl).2.2.2 _ _ oX qA)) (fun hHeld=>?_)
      clear hK K
      try simp only[Act.put,List.setIfInBounds_toArray,List.set_cons_zero,List.set_cons_succ]
      refine wpAnyH_done (by kernel_rfl) ?_ _
      have HF8:=aPK nA (.string f.name) (.string f.of) (.bool f.list) (.bool f.must) (.bool f.far) (.bool f.hidden) (.bool f.shared) (.slice na f.needs.length nc) _ rfl
      have HRF:=aA0 (And.intro (rX.keep (HF8.2.1 rb (by omega)) (HF8.2.1 cb (by omega)) (by rw[HF8.2.2.1];exact Nat.le_refl _)) (And.intro (HF8.2.2.2 _ _ oX qA) HF8.1))
      clear HF8 nA oX rX
      go_wp2_with fail
      go_meet
      case rel=>exact⟨gA,f,na,nc,rfl,hfn,qA,HRF⟩
     refine rcH (fun K hK=>?_) AllReadyH.nil
     go_simp
     have bA:=aA2 wC (.cells #[.string ⟨#[]⟩,.string ⟨#[]⟩,.bool false,.bool false,.bool false,.bool false,.bool false,.slice none 0 0] 54)
     obtain⟨gA,hgA⟩:∃g,g=wC.heap.size:=⟨_,rfl⟩
     have nA:=aA3 (w:=wC) (N:=gA) #[.string ⟨#[]⟩,.string ⟨#[]⟩,.bool false,.bool false,.bool false,.bool false,.bool false,.slice none 0 0] 54 hgA.symm
     have qA:wR.heap.size≤gA:=by have:=oX.size;omega
     have oX:=oX.trans (Only.of_below (·=rb) bA) (fun _ _ q=>q)
     have rX:=rX.only (Only.of_below (fun _=>False) bA) id id
     refine hK.out _ _ (HTB.out _ oX) (fun hHeld=>?_)
     clear hK K
     try simp only[Act.put,List.setIfInBounds_toArray,List.set_cons_zero,List.set_cons_succ]
     rw[←hgA]
     generalize wC.alloc (.cells #[.string ⟨#[]⟩,.string ⟨#[]⟩,.bool false,.bool false,.bool false,.bool false,.bool false,.slice none 0 0] 54)=wA at*
     clear hgA bA
     refine rdyH [8] ?_
     refine rcH (fun K hK=>?_) AllReadyH.nil
     obtain⟨l0,l1,l2,l3,l4,l5,l6,l7⟩:=HCX.out wA (HWO.out _ oX)
     go_simp
     clear l0 l1 l2 l3 l4 l5 l6 l7
     refine hK.out _ _ (HTB.out _ oX) (fun hHeld=>?_)
     clear hK K
     try simp only[Act.put,List.setIfInBounds_toArray,List.set_cons_zero,List.set_cons_succ]
     refine rdyH [10] ?_
     refine rcH (fun K hK=>?_) AllReadyH.nil
     obtain⟨y0,g0⟩:=aA1 nA 0 (by simp)
     obtain⟨y1,g1⟩:=aA1 nA 1 (by simp)
     obtain⟨y2,g2⟩:=aA1 nA 2 (by simp)
     obtain⟨y3,g3⟩:=aA1 nA 3 (by simp)
     obtain⟨y4,g4⟩:=aA1 nA 4 (by simp)
     obtain⟨y5,g5⟩:=aA1 nA 5 (by simp)
     obtain⟨y6,g6⟩:=aA1 nA 6 (by simp)
     obtain⟨y7,g7⟩:=aA1 nA 7 (by simp)
     go_simp
     clear y0 g0 y1 g1 y2 g2 y3 g3 y4 g4 y5 g5 y6 g6 y7 g7
     refine hK.out _ _ (HTB.out _ ((aPK nA (.string f.name) (.string f.of) (.bool f.list) (.bool f.must) (.bool f.far) (.bool f.hidden) (.bool f.shared) (.slice na f.needs.length nc) _ rfl).2.2.2 _ _ oX qA)) (fun hHeld=>?_)
     clear hK K
     try simp only[Act.put,List.setIfInBounds_toArray,List.set_cons_zero,List.set_cons_succ]
     refine wpAnyH_done (by kernel_rfl) ?_ _
     have HF8:=aPK nA (.string f.name) (.string f.of) (.bool f.list) (.bool f.must) (.bool f.far) (.bool f.hidden) (.bool f.shared) (.slice na f.needs.length nc) _ rfl
     have HRF:=aA0 (And.intro (rX.keep (HF8.2.1 rb (by omega)) (HF8.2.1 cb (by omega)) (by rw[HF8.2.2.1];exact Nat.le_refl _)) (And.intro (HF8.2.2.2 _ _ oX qA) HF8.1))
     clear HF8 nA oX rX
     go_wp2_with fail
     go_meet
     case rel=>exact⟨gA,f,na,nc,rfl,hfn,qA,HRF⟩
    refine rcH (fun K hK=>?_) AllReadyH.nil
    go_simp
    have bA:=aA2 wE0 (.cells #[.string ⟨#[]⟩,.string ⟨#[]⟩,.bool false,.bool false,.bool false,.bool false,.bool false,.slice none 0 0] 54)
    obtain⟨gA,hgA⟩:∃g,g=wE0.heap.size:=⟨_,rfl⟩
    have nA:=aA3 (w:=wE0) (N:=gA) #[.string ⟨#[]⟩,.string ⟨#[]⟩,.bool false,.bool false,.bool false,.bool false,.bool false,.slice none 0 0] 54 hgA.symm
    have qA:wR.heap.size≤gA:=by have:=oX.size;omega
    have oX:=oX.trans (Only.of_below (·=rb) bA) (fun _ _ q=>q)
    have rX:=rX.only (Only.of_below (fun _=>False) bA) id id
    refine hK.out _ _ (HTB.out _ oX) (fun hHeld=>?_)
    clear hK K
    try simp only[Act.put,List.setIfInBounds_toArray,List.set_cons_zero,List.set_cons_succ]
    rw[←hgA]
    generalize wE0.alloc (.cells #[.string ⟨#[]⟩,.string ⟨#[]⟩,.bool false,.bool false,.bool false,.bool false,.bool false,.slice none 0 0] 54)=wA at*
    clear hgA bA
    refine rdyH [6] ?_
    refine rcH (fun K hK=>?_) AllReadyH.nil
    go_simp
    refine(HPKF.out wA rX).mono ?_
    rintro e wC ⟨x,rfl,hx,rX,oC,zC⟩
    have oX:=oX.trans oC (fun _ _ q=>q)
    have hxl:x<fl:=by omega
    have hxi:(x:Int)<(fl:Int):=by omega
    obtain⟨f,na,nc,hfn,HCX⟩:=HFC.out x hxl
    have HCX:=aA0 HCX
    clear hx zC
    try have nA:=(oC.block gA (Array.getElem?_eq_some_iff.1 nA).1 (by omega)).trans nA
    refine hK.out _ _ (HTB.out _ oX) (fun hHeld=>?_)
    clear hK K
    try simp only[Act.put,List.setIfInBounds_toArray,List.set_cons_zero,List.set_cons_succ]
    refine tkH 7 hHeld ?_
    refine rdyH [8] ?_
    refine rcH (fun K hK=>?_) AllReadyH.nil
    obtain⟨l0,l1,l2,l3,l4,l5,l6,l7⟩:=HCX.out wC (HWO.out _ oX)
    go_simp
    clear l0 l1 l2 l3 l4 l5 l6 l7
    refine hK.out _ _ (HTB.out _ oX) (fun hHeld=>?_)
    clear hK K
    try simp only[Act.put,List.setIfInBounds_toArray,List.set_cons_zero,List.set_cons_succ]
    refine rdyH [10] ?_
    refine rcH (fun K hK=>?_) AllReadyH.nil
    obtain⟨y0,g0⟩:=aA1 nA 0 (by simp)
    obtain⟨y1,g1⟩:=aA1 nA 1 (by simp)
    obtain⟨y2,g2⟩:=aA1 nA 2 (by simp)
    obtain⟨y3,g3⟩:=aA1 nA 3 (by simp)
    obtain⟨y4,g4⟩:=aA1 nA 4 (by simp)
    obtain⟨y5,g5⟩:=aA1 nA 5 (by simp)
    obtain⟨y6,g6⟩:=aA1 nA 6 (by simp)
    obtain⟨y7,g7⟩:=aA1 nA 7 (by simp)
    go_simp
    clear y0 g0 y1 g1 y2 g2 y3 g3 y4 g4 y5 g5 y6 g6 y7 g7
    refine hK.out _ _ (HTB.out _ ((aPK nA (.string f.name) (.string f.of) (.bool f.list) (.bool f.must) (.bool f.far) (.bool f.hidden) (.bool f.shared) (.slice na f.needs.length nc) _ rfl).2.2.2 _ _ oX qA)) (fun hHeld=>?_)
    clear hK K
    try simp only[Act.put,List.setIfInBounds_toArray,List.set_cons_zero,List.set_cons_succ]
    refine wpAnyH_done (by kernel_rfl) ?_ _
    have HF8:=aPK nA (.string f.name) (.string f.of) (.bool f.list) (.bool f.must) (.bool f.far) (.bool f.hidden) (.bool f.shared) (.slice na f.needs.length nc) _ rfl
    have HRF:=aA0 (And.intro (rX.keep (HF8.2.1 rb (by omega)) (HF8.2.1 cb (by omega)) (by rw[HF8.2.2.1];exact Nat.le_refl _)) (And.intro (HF8.2.2.2 _ _ oX qA) HF8.1))
    clear HF8 nA oX rX
    go_wp2_with fail
    go_meet
    case rel=>exact⟨gA,f,na,nc,rfl,hfn,qA,HRF⟩
   case rest=>
   obtain⟨FB,f,na,nc,rfl,hfn,hFge,HRF⟩:=hcut
   obtain⟨wA,rfl⟩:∃x,x=wc:=⟨wc,rfl⟩
   obtain⟨f0,-⟩:=aA1 HRF.out.2.2 0 (by simp)
   simp only[List.getElem_toArray,List.getElem_cons_zero] at f0
   have bS:=aA2 wA (.cells #[.string ⟨#[]⟩,.string f.name,.bool false,.int .i64 0,.slice none 0 0] 56)
   have nS:=aA3 (w:=wA) (N:=wA.heap.size) #[.string ⟨#[]⟩,.string f.name,.bool false,.int .i64 0,.slice none 0 0] 56 rfl
   have hFl:FB<wA.heap.size:=(Array.getElem?_eq_some_iff.1 HRF.out.2.2).1
   go_upto_region 11 with fail
   clear f0
   obtain⟨SB,hSB⟩:∃x,x=wA.heap.size:=⟨_,rfl⟩
   have HR0:Hid (RSs rb cb wR (q2+1) FB wA.heap.size #[.string f.name,.string f.of,.bool f.list,.bool f.must,.bool f.far,.bool f.hidden,.bool f.shared,.slice na f.needs.length nc] #[.string ⟨#[]⟩,.string f.name,.bool false,.int .i64 0,.slice none 0 0] (wA.alloc (.cells #[.string ⟨#[]⟩,.string f.name,.bool false,.int .i64 0,.slice none 0 0] 56))):=aA0 ⟨HRF.out.1.only (Only.of_below (fun _=>False) bS) id id,HRF.out.2.1.trans (Only.of_below (·=rb) bS) (fun _ _ q=>q),(bS.block _ hFl).trans HRF.out.2.2,nS,hFge,HRF.out.2.1.size,by omega,by omega,by omega⟩
   generalize wA.alloc (.cells #[.string ⟨#[]⟩,.string f.name,.bool false,.int .i64 0,.slice none 0 0] 56)=wB at*
   clear bS nS HRF
   have HPK5:=aA0 (aBA wB rb cb (q2+1) 5 HR0.out.rd (by omega) (by omega) (by omega))
   go_upto_if 54 with(
    go_at_call 56
    refine HPK5.out.mono ?_
    rintro e wC ⟨y,rfl,hy,rC,oC,zC⟩)
   have HR1:=aA0 (HR0.out.move rC oC)
   clear HPK5 rC oC hy HR0 zC
   go_cut [] (fun wx=>∃(al:ByteArray) (q':Nat),al.size≤12∧q'≤q2+3∧Hid (RSs rb cb wR q' FB wA.heap.size #[.string f.name,.string f.of,.bool f.list,.bool f.must,.bool f.far,.bool f.hidden,.bool f.shared,.slice na f.needs.length nc] #[.string al,.string f.name,.bool false,.int .i64 0,.slice none 0 0] wx))
   case first=>
    by_cases hy0:y=0
    ·subst hy0
     have HOF:Hid (Calls Tryz.prog 57 #[.pointer (some ⟨rb,0,none⟩),.slice (some ⟨wC.heap.size,0,none⟩) 3 3] (wC.alloc (.cells #[.string ⟨#[97]⟩,.string ⟨#[98]⟩,.string ⟨#[99]⟩] 9)) fun e w'=>∃s:ByteArray,e=.returned (.string s)∧s.size≤12∧RdOk w' rb cb (q2+1+1+1)∧Only (·=rb) (wC.alloc (.cells #[.string ⟨#[97]⟩,.string ⟨#[98]⟩,.string ⟨#[99]⟩] 9)) w'):=aA0 (of_block _ rb cb (q2+1+1) wC.heap.size (HR1.out.rd.only (Only.of_below (fun _=>False) (aA2 _ _)) id id) (by omega) [⟨#[97]⟩,⟨#[98]⟩,⟨#[99]⟩] (by simp) (by simp) (by intro s hs;simp at hs;rcases hs with rfl| rfl| rfl<;>decide) (aA3 _ _ rfl) (by have:=HR1.out.rd.lt.1;omega))
     have HR2:=aA0 (HR1.out.below (aA2 wC (.cells #[.string ⟨#[97]⟩,.string ⟨#[98]⟩,.string ⟨#[99]⟩] 9)))
     go_wp2_with (
      go_at_call 57
      refine HOF.out.mono ?_
      rintro e wD ⟨al,rfl,hal,rD,oD⟩
      have HR3:=aA0 (HR2.out.move rD oD)
      obtain⟨s0,z0⟩:=aA1 HR3.out.sb 0 (by simp)
      simp only[List.getElem_toArray,List.getElem_cons_zero] at s0)
     have HR4:=aA0 (HR3.out.set 0 (.string al))
     go_meet
     case rel=>exact⟨al,q2+1+1+1,hal,by omega,HR4⟩
    ·have hyi:¬(y:Int)=0:=by omega
     go_wp2_with fail
     go_meet
     case rel=>exact⟨⟨#[]⟩,q2+1+1,by decide,by omega,HR1⟩
   case rest=>
   obtain⟨al,q3,hal,hq3,HR5⟩:=hcut
   obtain⟨wE,rfl⟩:∃x,x=wc:=⟨wc,rfl⟩
   clear HR1
   obtain⟨g1,-⟩:=aA1 HR5.out.fb 1 (by simp)
   simp only[List.getElem_toArray,List.getElem_cons_zero,List.getElem_cons_succ] at g1
   have hSl:wA.heap.size<wE.heap.size:=(Array.getElem?_eq_some_iff.1 HR5.out.sb).1
   obtain⟨sc,HSC⟩:∃b,Hid (aAF f.of=b):=⟨_,rfl⟩
   have HCS:=aA0 (aAS f.of wE)
   rw[HSC.out] at HCS
   go_upto_if 62 with(
    go_at_call 109
    refine HCS.out.mono ?_
    rintro e w' ⟨rfl,rfl⟩)
   clear HCS
   go_cut [] (fun wx=>∃(one:Bool) (id:Int) (ks:List Se) (ka:Option Addr) (kc q':Nat),aFV d ks∧q'≤q2+5+pkN d∧Hid (RSs rb cb wR q' FB wA.heap.size #[.string f.name,.string f.of,.bool f.list,.bool f.must,.bool f.far,.bool f.hidden,.bool f.shared,.slice na f.needs.length nc] #[.string al,.string f.name,.bool one,.int .i64 id,.slice ka ks.length kc] wx∧aAA wx (fun x=>wA.heap.size<x∧x<wx.heap.size∧aBK wx x) ks ka))
   case first=>
    cases sc
    case true=>
     go_wp2_with fail
     go_meet
     case rel=>exact⟨false,0,[],none,0,q3,aFV.nil d,by omega,aA0 ⟨HR5.out,⟨by simp,fun _ _=>.bool false,fun hn=>by simp at hn,fun i hi=>by simp at hi⟩⟩⟩
    case false=>
     obtain⟨p0,p1⟩:=HPB2.out wE HR5.out.only
     have hREC:=IH (D+1) (by omega) wE rb cb q3 p P (.agg #[.string p.name,.slice (some ⟨b,off,none⟩) p.types.length tc]) f.of HR5.out.rd (by omega) (HPW.out wE (HWO.out wE HR5.out.only)) (fun x hx=>⟨by have:=(HPB.out x hx).1;have:=HR5.out.only.size;omega,(HPB.out x hx).2⟩) HF.out HZ.out
     rw[Int.natCast_add,Int.natCast_one] at hREC
     have HREC:=aA0 hREC
     have hD64:(D:Int)+1≤100:=by omega
     have hD0:(0:Int)≤(D:Int):=by omega
     clear hREC
     go_upto_if 74 with(
      go_at_call 97
      refine HREC.out.mono ?_
      rintro e wF ⟨ks,ka,kc,q4,rfl,hKS,rF,hq4,oF,hOK⟩
      have HR6:=aA0 (HR5.out.move rF oF)
      obtain⟨s4,z4'⟩:=aA1 HR6.out.sb 4 (by simp)
      simp only[List.getElem_toArray,List.getElem_cons_zero,List.getElem_cons_succ] at s4)
     have HR7:Hid (RSs rb cb wR q4 FB wA.heap.size #[.string f.name,.string f.of,.bool f.list,.bool f.must,.bool f.far,.bool f.hidden,.bool f.shared,.slice na f.needs.length nc] #[.string al,.string f.name,.bool false,.int .i64 0,.slice ka ks.length kc] (wF.setCell ⟨wA.heap.size,4,none⟩ (.slice ka ks.length kc))):=aA0 (HR6.out.set 4 (.slice ka ks.length kc))
     have HKS:Hid (aAA (wF.setCell ⟨wA.heap.size,4,none⟩ (.slice ka ks.length kc)) (fun x=>wA.heap.size<x∧x<(wF.setCell ⟨wA.heap.size,4,none⟩ (.slice ka ks.length kc)).heap.size∧aBK (wF.setCell ⟨wA.heap.size,4,none⟩ (.slice ka ks.length kc)) x) ks ka):=aA0 (by
      have hk:∀x,x≠wA.heap.size→(wF.setCell ⟨wA.heap.size,4,none⟩ (.slice ka ks.length kc)).heap[x]?=wF.heap[x]?:=fun x hx=>Below.heap_setCell _ _ _ _ hx
      have hz:(wF.setCell ⟨wA.heap.size,4,none⟩ (.slice ka ks.length kc)).heap.size=wF.heap.size:=by simp
      exact(hKS.mono fun x hx=>hk x (by omega)).sub fun x hx=>⟨by omega,by rw[hz];exact hx.2.1,hx.2.2.of_block (hk x (by omega))⟩)
     clear HR6 hKS s4 z4' p0 p1 HREC rF oF
     generalize wF.setCell ⟨wA.heap.size,4,none⟩ (.slice ka ks.length kc)=wG at*
     by_cases hk0:ks.length=0
     ·have HN:=aA0 (HS.out.move HR7.out.rd HR7.out.only)
      go_wp2_with fail
      go_roundw
      case measure=>simp[intOf];omega
      case rel=>exact⟨k- 1,q4,es,by congr 1;omega,by omega,HBD.out q4 (by omega),HN⟩
     have hk0i:¬(ks.length:Int)=0:=by omega
     cases e1:(nm.toList==[113,117,101,114,121])
     ·go_wp2_with fail
      go_meet
      case rel=>exact⟨false,0,ks,ka,kc,q4,hOK,by omega,aA0 ⟨HR7.out,HKS.out⟩⟩
     ·obtain⟨fl2,hl2⟩:∃x,Hid (f.list=x):=⟨_,rfl⟩
      obtain⟨g2,-⟩:=aA1 HR7.out.fb 2 (by simp)
      simp only[List.getElem_toArray,List.getElem_cons_zero,List.getElem_cons_succ] at g2
      rw[hl2.out] at g2
      cases fl2
      case true=>
       go_wp2_with fail
       go_meet
       case rel=>exact⟨false,0,ks,ka,kc,q4,hOK,by omega,aA0 ⟨HR7.out,HKS.out⟩⟩
      case false=>
       have HPK2:=aA0 (aBA wG rb cb q4 2 HR7.out.rd (by omega) (by omega) (by omega))
       go_upto_if 86 with(
        go_at_call 56
        refine HPK2.out.mono ?_
        rintro e wH ⟨y2,rfl,hy2,rH,oH,zH⟩)
       have HR8:=aA0 (HR7.out.move rH oH)
       have HK8:Hid (aAA wH (fun x=>wA.heap.size<x∧x<wH.heap.size∧aBK wH x) ks ka):=aA0 ((HKS.out.mono fun x hx=>oH.block x hx.2.1 (by have:=HR7.out.sge;have:=HR7.out.rlt;omega)).sub fun x hx=>⟨hx.1,by omega,hx.2.2.of_block (oH.block x hx.2.1 (by have:=HR7.out.sge;have:=HR7.out.rlt;omega))⟩)
       clear HPK2 rH oH hy2 zH g2
       by_cases hy2:y2=0
       ·subst hy2
        obtain⟨s2,z2'⟩:=aA1 HR8.out.sb 2 (by simp)
        simp only[List.getElem_toArray,List.getElem_cons_zero,List.getElem_cons_succ] at s2
        go_upto_region 18 with fail
        clear s2 z2'
        have HR9:Hid (RSs rb cb wR (q4+1) FB wA.heap.size #[.string f.name,.string f.of,.bool f.list,.bool f.must,.bool f.far,.bool f.hidden,.bool f.shared,.slice na f.needs.length nc] #[.string al,.string f.name,.bool true,.int .i64 0,.slice ka ks.length kc] (wH.setCell ⟨wA.heap.size,2,none⟩ (.bool true))):=aA0 (HR8.out.set 2 (.bool true))
        have HK9:Hid (aAA (wH.setCell ⟨wA.heap.size,2,none⟩ (.bool true)) (fun x=>wA.heap.size<x∧x<(wH.setCell ⟨wA.heap.size,2,none⟩ (.bool true)).heap.size∧aBK (wH.setCell ⟨wA.heap.size,2,none⟩ (.bool true)) x) ks ka):=aA0 (by
         have hk:∀x,x≠wA.heap.size→(wH.setCell ⟨wA.heap.size,2,none⟩ (.bool true)).heap[x]?=wH.heap[x]?:=fun x hx=>Below.heap_setCell _ _ _ _ hx
         have hz:(wH.setCell ⟨wA.heap.size,2,none⟩ (.bool true)).heap.size=wH.heap.size:=by simp
         exact(HK8.out.mono fun x hx=>hk x (by omega)).sub fun x hx=>⟨by omega,by rw[hz];exact hx.2.1,hx.2.2.of_block (hk x (by omega))⟩)
        generalize wH.setCell ⟨wA.heap.size,2,none⟩ (.bool true)=wI at*
        have HPK3:=aA0 (aBA wI rb cb (q4+1) 5 HR9.out.rd (by omega) (by omega) (by omega))
        go_wp2_with (
         go_at_call 56
         refine HPK3.out.mono ?_
         rintro e wL ⟨y3,rfl,hy3,rL,oL,zL⟩
         have HRA:=aA0 (HR9.out.move rL oL)
         have HKA:Hid (aAA wL (fun x=>wA.heap.size<x∧x<wL.heap.size∧aBK wL x) ks ka):=aA0 ((HK9.out.mono fun x hx=>oL.block x hx.2.1 (by have:=HR9.out.sge;have:=HR9.out.rlt;omega)).sub fun x hx=>⟨hx.1,by omega,hx.2.2.of_block (oL.block x hx.2.1 (by have:=HR9.out.sge;have:=HR9.out.rlt;omega))⟩)
         obtain⟨s3,z3'⟩:=aA1 HRA.out.sb 3 (by simp)
         simp only[List.getElem_toArray,List.getElem_cons_zero,List.getElem_cons_succ] at s3)
        have HRB:Hid (RSs rb cb wR (q4+1+1) FB wA.heap.size #[.string f.name,.string f.of,.bool f.list,.bool f.must,.bool f.far,.bool f.hidden,.bool f.shared,.slice na f.needs.length nc] #[.string al,.string f.name,.bool true,.int .i64 (y3:Int),.slice ka ks.length kc] (wL.setCell ⟨wA.heap.size,3,none⟩ (.int .i64 (y3:Int)))):=aA0 (HRA.out.set 3 (.int .i64 (y3:Int)))
        have HKB2:Hid (aAA (wL.setCell ⟨wA.heap.size,3,none⟩ (.int .i64 (y3:Int))) (fun x=>wA.heap.size<x∧x<(wL.setCell ⟨wA.heap.size,3,none⟩ (.int .i64 (y3:Int))).heap.size∧aBK (wL.setCell ⟨wA.heap.size,3,none⟩ (.int .i64 (y3:Int))) x) ks ka):=aA0 (by
         have hk:∀x,x≠wA.heap.size→(wL.setCell ⟨wA.heap.size,3,none⟩ (.int .i64 (y3:Int))).heap[x]?=wL.heap[x]?:=fun x hx=>Below.heap_setCell _ _ _ _ hx
         have hz:(wL.setCell ⟨wA.heap.size,3,none⟩ (.int .i64 (y3:Int))).heap.size=wL.heap.size:=by simp
         exact(HKA.out.mono fun x hx=>hk x (by omega)).sub fun x hx=>⟨by omega,by rw[hz];exact hx.2.1,hx.2.2.of_block (hk x (by omega))⟩)
        go_meet
        case rel=>exact⟨true,(y3:Int),ks,ka,kc,q4+1+1,hOK,by omega,aA0 ⟨HRB.out,HKB2.out⟩⟩
       ·have hy2i:¬(y2:Int)=0:=by omega
        go_wp2_with fail
        go_meet
        case rel=>exact⟨false,0,ks,ka,kc,q4+1,hOK,by omega,aA0 ⟨HR8.out,HK8.out⟩⟩
   case rest=>
   obtain⟨one,id,ks,ka,kc,q5,hOK,hq5,HR6⟩:=hcut
   obtain⟨wM,rfl⟩:∃x,x=wc:=⟨wc,rfl⟩
   clear HR5 HSC
   obtain⟨g5,-⟩:=aA1 HR6.out.1.fb 5 (by simp)
   simp only[List.getElem_toArray,List.getElem_cons_zero,List.getElem_cons_succ] at g5
   obtain⟨hh,HH⟩:∃x,Hid (f.hidden=x):=⟨_,rfl⟩
   rw[HH.out] at g5
   go_upto_region 19 with fail
   go_cut [97] (fun r wx=>∃(bb:Bool) (q6:Nat),r=.bool bb∧q6≤q5+1∧Hid (RSs rb cb wR q6 FB wA.heap.size #[.string f.name,.string f.of,.bool f.list,.bool f.must,.bool f.far,.bool f.hidden,.bool f.shared,.slice na f.needs.length nc] #[.string al,.string f.name,.bool one,.int .i64 id,.slice ka ks.length kc] wx∧aAA wx (fun x=>wA.heap.size<x∧x<wx.heap.size∧aBK wx x) ks ka))
   case first=>
    cases hh
    case true=>
     have HPK8:=aA0 (aBA wM rb cb q5 8 HR6.out.1.rd (by omega) (by omega) (by omega))
     go_wp2_with (
      go_at_call 56
      refine HPK8.out.mono ?_
      rintro e wN ⟨y8,rfl,hy8,rN,oN,zN⟩
      have HRN:=aA0 (HR6.out.1.move rN oN)
      have HKN:Hid (aAA wN (fun x=>wA.heap.size<x∧x<wN.heap.size∧aBK wN x) ks ka):=aA0 ((HR6.out.2.mono fun x hx=>oN.block x hx.2.1 (by have:=HR6.out.1.sge;have:=HR6.out.1.rlt;omega)).sub fun x hx=>⟨hx.1,by omega,hx.2.2.of_block (oN.block x hx.2.1 (by have:=HR6.out.1.sge;have:=HR6.out.1.rlt;omega))⟩)
      clear HPK8 rN oN zN)
     go_meet
     case rel=>exact⟨_,q5+1,rfl,by omega,aA0 ⟨HRN.out,HKN.out⟩⟩
    case false=>
     go_wp2_with fail
     go_meet
     case rel=>exact⟨false,q5,rfl,by omega,HR6⟩
   case rest=>
   obtain⟨bb,q6,rfl,hq6,HR7⟩:=hcut
   obtain⟨wN,rfl⟩:∃x,x=wc:=⟨wc,rfl⟩
   clear HR6 g5
   have HN:=aA0 (HS.out.move HR7.out.1.rd HR7.out.1.only)
   cases bb
   case true=>
    go_wp2_with fail
    go_roundw
    case measure=>simp[intOf];omega
    case rel=>exact⟨k- 1,q6,es,by congr 1;omega,by omega,HBD.out q6 (by omega),HN⟩
   case false=>
   have HOL:=aA0 (fun j=>HS.out.row.row.lt j)
   obtain⟨g0,cap,rfl⟩:=HN.out.form
   go_wp2_with fail
   go_loopw [15,16] (fun t i wr=>∃(tb:Bool) (j:Nat),t=.bool tb∧i=.int .i64 j∧j≤es.length∧Below wN.heap.size wN wr) (fun _ i _=>es.length- (intOf i).toNat)
   case atStart=>exact⟨false,0,rfl,rfl,Nat.zero_le _,Below.refl _ _⟩
   case round=>
    obtain⟨tb,j,rfl,rfl,hj,hb2⟩:=hrel
    obtain⟨wP,rfl⟩:∃x,x=wr:=⟨wr,rfl⟩
    have z2:=hb2.size
    by_cases hjl:j<es.length
    case pos=>
     have hji:(j:Int)<(es.length:Int):=by omega
     cases tb
     case true=>
      go_wp2_with fail
      first| (go_region)| fail
      all_goals
       go_wp2_with fail
       go_roundw
       case measure=>simp[intOf];omega
       case rel=>exact⟨true,j+1,rfl,by go_num,by omega,by first| exact hb2| exact aAL hb2 _⟩
     case false=>
      have hc5:=(HN.out.cells j hjl)
      have HC:Hid (∀W,Below wN.heap.size wN W→aHP W g0 (j*5) (es[j]).s (es[j]).ka (es[j]).kc∧W.cell? ⟨wA.heap.size,0,none⟩=some (.string al)∧W.cell? ⟨wA.heap.size,1,none⟩=some (.string f.name)∧W.cell? ⟨wA.heap.size,2,none⟩=some (.bool one)∧W.cell? ⟨wA.heap.size,3,none⟩=some (.int .i64 id)∧W.cell? ⟨wA.heap.size,4,none⟩=some (.slice ka ks.length kc)):=aA0 fun W hW=>by
       have h:=(HR7.out.1.below hW).sb
       exact⟨hc5.1.keep (hW.block g0 hc5.2),(aA1 h 0 (by simp)).1,(aA1 h 1 (by simp)).1,(aA1 h 2 (by simp)).1,(aA1 h 3 (by simp)).1,(aA1 h 4 (by simp)).1⟩
      clear hc5
      have HK1:=aA0 (fun W v2 v3 v4=>aD7 (es[j]).s W v2 v3 v4)
      have HK2:=aA0 (fun W v2 v3 v4=>aD7 ⟨al,f.name,one,id,ks⟩ W v2 v3 v4)
      generalize (es[j]).ka=xa at*
      generalize (es[j]).kc=xc at*
      generalize (es[j]).s=x at*
      obtain⟨⟨c0,c1,c2,c3,c4⟩,d0,d1,d2,d3,d4⟩:=HC.out wP hb2
      go_wp2_with fail
      go_region_held3 (fun w'=>w'.cell? ⟨g0,j*5,none⟩=some (.string x.al)∧w'.cell? ⟨g0,j*5+1,none⟩=some (.string x.name)∧w'.cell? ⟨g0,j*5+2,none⟩=some (.bool x.one)∧w'.cell? ⟨g0,j*5+3,none⟩=some (.int .i64 x.id)∧w'.cell? ⟨g0,j*5+4,none⟩=some (.slice xa x.kids.length xc)∧w'.cell? ⟨wA.heap.size,0,none⟩=some (.string al)∧w'.cell? ⟨wA.heap.size,1,none⟩=some (.string f.name)∧w'.cell? ⟨wA.heap.size,2,none⟩=some (.bool one)∧w'.cell? ⟨wA.heap.size,3,none⟩=some (.int .i64 id)∧w'.cell? ⟨wA.heap.size,4,none⟩=some (.slice ka ks.length kc)) (go_keep)
       (first
        |(
         go_at_call_of 81 (Value.agg #[.string x.al,.string x.name,.bool x.one,.int .i64 x.id,.slice xa x.kids.length xc])
         refine(HK1.out wP.drew _ _ _).mono ?_
         rintro e w3' ⟨rfl,hb3⟩
         have b3:=hb2.trans ((aA6 hb3).mono z2)
         clear hb3
         obtain⟨⟨c0',c1',c2',c3',c4'⟩,d0',d1',d2',d3',d4'⟩:=HC.out w3' b3)
        |(
         go_at_call_of 81 (Value.agg #[.string al,.string f.name,.bool one,.int .i64 id,.slice ka ks.length kc])
         refine(HK2.out w3' _ _ _).mono ?_
         rintro e w4' ⟨rfl,hb4⟩
         have b4:=b3.trans (hb4.mono b3.size)
         obtain⟨⟨c0'',c1'',c2'',c3'',c4''⟩,d0'',d1'',d2'',d3'',d4''⟩:=HC.out w4' b4))
      all_goals
       go_wp2_with fail
       go_roundw
       case measure=>simp[intOf];omega
       case rel=>exact⟨_,j+1,rfl,by go_num,by omega,b4⟩
    case neg=>
     have hji:¬(j:Int)<(es.length:Int):=by omega
     have HNP:=aA0 (HN.out.below hb2)
     have HRP:=aA0 (HR7.out.1.below hb2)
     cases tb
     case true=>
      go_wp2_with fail
      go_roundw
      case measure=>simp[intOf];omega
      case rel=>exact⟨k- 1,q6,es,by congr 1;omega,by omega,HBD.out q6 (by omega),HNP⟩
     case false=>
      obtain⟨d0,-⟩:=aA1 HRP.out.sb 0 (by simp)
      obtain⟨d1,-⟩:=aA1 HRP.out.sb 1 (by simp)
      obtain⟨d2,-⟩:=aA1 HRP.out.sb 2 (by simp)
      obtain⟨d3,-⟩:=aA1 HRP.out.sb 3 (by simp)
      obtain⟨d4,-⟩:=aA1 HRP.out.sb 4 (by simp)
      simp only[List.getElem_toArray,List.getElem_cons_zero,List.getElem_cons_succ] at d0 d1 d2 d3 d4
      cases f1:(al.toList==f.name.toList)
      case true=>
       have f1':(al.toList !=f.name.toList)=false:=by simp only[bne,f1];rfl
       go_wp2_with fail
       go_roundw
       case measure=>simp[intOf];omega
       case rel=>exact⟨k- 1,q6,es,by congr 1;omega,by omega,HBD.out q6 (by omega),HNP⟩
      case false=>
       have f1':(al.toList !=f.name.toList)=true:=by simp only[bne,f1];rfl
       obtain⟨i0,hi0,hz0,hz1,hz2⟩:=info_parts aL2
       have hrow:=HNP.out.row.row
       have hsge:=HRP.out.sge
       have HKP:=aA0 (HR7.out.2.mono fun x hx=>hb2.block x hx.2.1)
       have HQP:Hid (∀x,(wA.heap.size<x∧x<wN.heap.size∧aBK wN x)→x<wP.heap.size∧Value.ownBlock (.slice (some ⟨g0,0,none⟩) es.length cap)≠some x∧w.heap.size≤x∧aBK wP x):=aA0 fun x hx=>⟨by omega,fun e=>by have:=(HOL.out x e).2;omega,by omega,hx.2.2.of_block (hb2.block x hx.2.1)⟩
       have hSEL:SelE d ⟨al,f.name,one,id,ks⟩:=⟨by show al.size≤_;omega,hfn,hOK⟩
       have HSEL:=aA0 hSEL
       have hpl:w.heap.size≤wP.heap.size:=HNP.out.only.size
       go_wp2_with (
        at_builtin
        refine wpList_append_own_at _ rfl _ _ 23 rfl w.heap.size 56 i0 aP8 5 72 Tryz.underlying23 hi0 hz0 hz1 hz2 rfl (by decide) _ es.length _ rfl (hrow.alloc _) ⟨wP.heap.size,0,none⟩ 1 1 [.string al,.string f.name,.bool one,.int .i64 id,.slice ka ks.length kc] rfl rfl (World.news_of_block (heap_alloc_new wP _)) (by intro u hu;simp at hu;rcases hu with rfl| rfl| rfl| rfl| rfl<;>rfl) (by unfold maxLen;omega) (by omega) (by simp;omega) ?_
        intro v' w7 hown hgrow hnn hob
        refine Hid.out ?_)
       refine aA0 ?_
       have hpush:=(HNP.out.below (aA2 wP (.cells #[.string al,.string f.name,.bool one,.int .i64 id,.slice ka ks.length kc] 56))).push ⟨⟨al,f.name,one,id,ks⟩,ka,kc,fun x=>wA.heap.size<x∧x<wN.heap.size∧aBK wN x⟩ rfl hown hgrow hob (HKP.out.mono fun x hx=>(aA2 wP _).block x (HQP.out x hx).1) (fun x hx=>by obtain⟨h1,h2,h3,h4⟩:=HQP.out x hx;exact⟨by simp;omega,h2,h3,h4.of_block ((aA2 wP _).block x h1)⟩) HSEL.out
       have HP:=aA0 hpush
       obtain⟨g7,cap7,rfl⟩:=hpush.form
       clear hown hgrow hnn hob hpush
       go_wp2_with fail
       go_roundw
       case measure=>simp[intOf];omega
       case rel=>exact⟨k- 1,q6,_,by congr 1;omega,by simp;omega,HBD.out q6 (by omega),HP⟩
end Go.Proofs.YtokmgbidmnanpaaGreatDoor
