import Derived.Test.YtokmgbidmnanpaaGreatDoorQ23
import Derived.Test.YtokmgbidmnanpaaGreatDoorQ17
import Derived.Test.YtokmgbidmnanpaaGreatDoorQ1
import Derived.Test.YtokmgbidmnanpaaGreatDoorQ22
import Derived.Test.YtokmgbidmnanpaaGreatDoorQ14
import Derived.WideShapes
set_option linter.unusedSimpArgs false
set_option linter.unusedVariables false
namespace Go.Proofs.YtokmgbidmnanpaaGreatDoor
open Go.RowKit Go.Maps
def aK9(w:World)(Q:Nat→Prop):Prop:=∀b,Q b→∀o s,w.cell? ⟨b,o,none⟩≠some (.string s)
theorem Strs.avoid{w:World}{P Q:Nat→Prop}{ns:List ByteArray}{a:Option Addr}(h:Strs w P ns a)(hr:aK9 w Q):Strs w (fun b=>P b∧¬Q b) ns a:=
 ⟨fun hn=>by
  obtain⟨b,off,e,hb,hc⟩:=h.1 hn
  exact⟨b,off,e,⟨hb,fun hq=>hr _ hq _ _ (hc 0 (List.length_pos_iff.2 hn))⟩,hc⟩,h.2⟩
theorem FRep.avoid{w:World}{P Q:Nat→Prop}{f:F}{v:Value}(h:FRep w P f v)(hr:aK9 w Q):FRep w (fun b=>P b∧¬Q b) f v:=by
 obtain⟨na,nc,h1,h2,h3⟩:=h
 exact⟨na,nc,h1,h2.avoid hr,h3⟩
theorem aC6.avoid{w:World}{P Q:Nat→Prop}{fs:List F}{a:Option Addr}(h:aC6 w P fs a)(hr:aK9 w Q):aC6 w (fun b=>P b∧¬Q b) fs a:=by
 obtain⟨h0,C,hA,hR⟩:=h
 refine⟨h0,C,fun hn=>?_,fun i hi=>(hR i hi).avoid hr⟩
 obtain⟨b,off,e,hb,hc⟩:=hA hn
 refine⟨b,off,e,⟨hb,fun hq=>?_⟩,hc⟩
 obtain⟨na,nc,e1,-⟩:=hR 0 hn
 simp only[Value.agg.injEq,Array.mk.injEq,List.cons.injEq,and_true] at e1
 have:=hc 0 hn 0 (by omega)
 rw[e1.1] at this
 exact hr _ hq _ _ this
theorem TRep.avoid{w:World}{P Q:Nat→Prop}{t:T}{v:Value}(h:TRep w P t v)(hr:aK9 w Q):TRep w (fun b=>P b∧¬Q b) t v:=by
 obtain⟨fa,fc,h1,h2,h3⟩:=h
 exact⟨fa,fc,h1,h2.avoid hr,h3⟩
theorem PRep.avoid{w:World}{P Q:Nat→Prop}{p:Pt}{v:Value}(h:PRep w P p v)(hr:aK9 w Q):PRep w (fun b=>P b∧¬Q b) p v:=by
 obtain⟨ta,tc,h1,⟨h0,C,hA,hR⟩,h3⟩:=h
 refine⟨ta,tc,h1,⟨h0,C,fun hn=>?_,fun i hi=>(hR i hi).avoid hr⟩,h3⟩
 obtain⟨b,off,e,hb,hc⟩:=hA hn
 refine⟨b,off,e,⟨hb,fun hq=>?_⟩,hc⟩
 obtain⟨fa,fc,e1,-⟩:=hR 0 hn
 simp only[Value.agg.injEq,Array.mk.injEq,List.cons.injEq,and_true] at e1
 have:=hc 0 hn 0 (by omega)
 rw[e1.1] at this
 exact hr _ hq _ _ this
def aL4(w:World)(N:Nat):World:={ w with heap:=w.heap.mapIdx fun i o=>if i<N then .cells #[] 0 else o }
theorem aOO(w:World)(N k:Nat)(h:N≤k):(aL4 w N).heap[k]?=w.heap[k]?:=by
 have:¬k<N:=by omega
 simp[aL4,Array.getElem?_mapIdx,this]
theorem aPU(w:World)(N:Nat):aK9 (aL4 w N) (·<N):=fun b hb o s hc=>by
 have hb':b<N:=hb
 unfold World.cell? at hc
 rcases h:w.heap[b]? with _| x
 ·simp[aL4,Array.getElem?_mapIdx,h] at hc
 ·simp[aL4,Array.getElem?_mapIdx,h,hb'] at hc
theorem aQB(w:World)(N:Nat):(aL4 w N).heap.size=w.heap.size:=by simp[aL4]
theorem Laid.partN{w w':World}{σ:Sh}{B:Bd}{s:ByteArray}{tb off len c' cap:Nat}(h:Laid w w' σ B s tb off len c' cap):
  ∃p:Pt,PRep w' (fun b=>w.heap.size≤b∧b<w'.heap.size) p (.agg #[.string s,.slice (some ⟨tb,off*3,none⟩) len c'])∧szP p≤900000:=by
 have hB:Laid w (aL4 w' w.heap.size) σ B s tb off len c' cap:=h.keep fun b h1 _=>aOO _ _ _ h1
 obtain⟨p,hP,hz⟩:=hB.part
 refine⟨p,((hP.avoid (aPU w' w.heap.size)).mono fun k hk=>?_).sub fun b hb=>?_,hz⟩
 ·have:¬k<w.heap.size:=hk.2
  exact(aOO _ _ _ (by omega)).symm
 ·have h1:¬b<w.heap.size:=hb.2
  have h2:b<(aL4 w' w.heap.size).heap.size:=hb.1
  rw[aQB] at h2
  exact⟨by omega,h2⟩
end Go.Proofs.YtokmgbidmnanpaaGreatDoor
namespace Go.Proofs.YtokmgbidmnanpaaGreatDoor
open Go.RowKit Go.Maps
structure LSt(w wx:World)(σ σL:Sh)(tb pb:Nat):Prop where
 wf:Wf wx σL bdL
 blk:σL tb=some (52,4)
 new:∀b T m,σL b=some (T,m)→w.heap.size≤b
 str:∀b m,σL b=some (9,m)→σ b=some (9,m)
 sep:∀b T m,σL b=some (T,m)→T≠9→σ b=none∧b≠pb
theorem LSt.move{w wx wy:World}{σ σL:Sh}{tb pb rb:Nat}(h:LSt w wx σ σL tb pb)(hr:rb<w.heap.size)(ho:Only (·=rb) wx wy):LSt w wy σ σL tb pb:=
 ⟨h.wf.keep fun b T m hb=>ho.block b (h.wf.lt hb) (by have:=h.new b T m hb;omega),h.blk,h.new,h.str,h.sep⟩
structure FBx(w wx:World)(σ:Sh)(pb fx:Nat)(cs:Array Value):Prop where
 box:wx.heap[fx]?=some (.cells cs 54 (0,0))
 nil:σ fx=none
 ne:fx≠pb
 new:w.heap.size≤fx
theorem FBx.lt{w wx:World}{σ:Sh}{pb fx:Nat}{cs:Array Value}(h:FBx w wx σ pb fx cs):fx<wx.heap.size:=(Array.getElem?_eq_some_iff.1 h.box).1
theorem FBx.move{w wx wy:World}{σ:Sh}{pb fx rb:Nat}{cs:Array Value}(h:FBx w wx σ pb fx cs)(hr:rb<w.heap.size)(ho:Only (·=rb) wx wy):FBx w wy σ pb fx cs:=
 ⟨(ho.block fx h.lt (by have:=h.new;omega)).trans h.box,h.nil,h.ne,h.new⟩
theorem FBx.set{w wx:World}{σ:Sh}{pb fx:Nat}{cs:Array Value}(h:FBx w wx σ pb fx cs)(j:Nat)(v:Value):FBx w (wx.setCell ⟨fx,j,none⟩ v) σ pb fx (cs.setIfInBounds j v):=⟨aA9 h.box j v,h.nil,h.ne,h.new⟩
theorem PSt.setF{w:World}{rb cb n:Nat}{wx:World}{σ:Sh}{c q pb pc fx:Nat}{ps:List Pv}{cs:Array Value}(h:PSt w rb cb n wx σ c q pb pc ps)(hf:FBx w wx σ pb fx cs)(j:Nat)(v:Value):PSt w rb cb n (wx.setCell ⟨fx,j,none⟩ v) σ c q pb pc ps:=by
 have hk:∀x,x≠fx→(wx.setCell ⟨fx,j,none⟩ v).heap[x]?=wx.heap[x]?:=fun x hx=>Below.heap_setCell _ _ _ _ hx
 have hn:=hf.new
 have hr:=h.rlt
 have hc:=h.clt
 refine⟨h.rd.keep (hk rb (by omega)) (hk cb (by omega)) (by rw[aAZ];exact Nat.le_refl _),h.wf.keep fun b T m hb=>hk b (fun e=>by subst e;rw[hf.nil] at hb;cases hb),h.new,?_,h.len,h.ok,h.npb,h.only.set fx j (Or.inr hn) v,hr,hc⟩
 refine⟨h.own.1,h.own.2.imp id ?_⟩
 rintro⟨g,cap,cur,e,hg,hh,hr⟩
 cases e
 exact⟨pb,pc,cur,rfl,hg,(hk pb (Ne.symm hf.ne)).trans hh,hr⟩
theorem LSt.setF{w wx:World}{σ σL:Sh}{tb pb fx:Nat}{cs:Array Value}(h:LSt w wx σ σL tb pb)(hf:FBx w wx σ pb fx cs)(hL:σL fx=none)(j:Nat)(v:Value):LSt w (wx.setCell ⟨fx,j,none⟩ v) σ σL tb pb:=
 ⟨h.wf.keep fun b T m hb=>Below.heap_setCell _ _ _ _ (fun e=>by have e:b=fx:=e;subst e;rw[hL] at hb;cases hb),h.blk,h.new,h.str,h.sep⟩
structure RSt(w:World)(rb cb n:Nat)(wx:World)(σ σL:Sh)(c q pb pc tb:Nat)(ps:List Pv):Prop where
 p:PSt w rb cb n wx σ c q pb pc ps
 l:LSt w wx σ σL tb pb
theorem RSt.move{w:World}{rb cb n:Nat}{wx wy:World}{σ σL:Sh}{c q q' pb pc tb:Nat}{ps:List Pv}(h:RSt w rb cb n wx σ σL c q pb pc tb ps)(hr:RdOk wy rb cb q')(ho:Only (·=rb) wx wy):RSt w rb cb n wy σ σL c q' pb pc tb ps:=⟨h.p.move hr ho,h.l.move h.p.rlt ho⟩
theorem RSt.below{w:World}{rb cb n:Nat}{wx wy:World}{σ σL:Sh}{c q pb pc tb:Nat}{ps:List Pv}(h:RSt w rb cb n wx σ σL c q pb pc tb ps)(hb:Below wx.heap.size wx wy):RSt w rb cb n wy σ σL c q pb pc tb ps:=⟨h.p.below hb,h.l.move h.p.rlt (Only.of_below _ hb)⟩
theorem RSt.fresh{w:World}{rb cb n:Nat}{wx:World}{σ σL:Sh}{c q pb pc tb:Nat}{ps:List Pv}(h:RSt w rb cb n wx σ σL c q pb pc tb ps){N:Nat}(hN:wx.heap.size≤N):σ N=none∧σL N=none∧N≠pb∧w.heap.size≤N:=⟨h.p.wf.fresh hN,h.l.wf.fresh hN,by have:=h.p.plt.2;omega,by have:=h.p.only.size;omega⟩
theorem LSt.row{w wx:World}{σ σL:Sh}{tb pb:Nat}(h:LSt w wx σ σL tb pb)(i:Nat)(hi:i<4):
  ∃(n:ByteArray) (fa:Option Addr) (fl fp:Nat),wx.cell? ⟨tb,i*3,none⟩=some (.string n)∧wx.cell? ⟨tb,i*3+2,none⟩=some (.slice fa fl fp)∧n.size≤12∧aAF n=false∧fl≤7∧(0<fl→∃b,fa=some ⟨b,0,none⟩∧fl≤fp∧σL b=some (54,fp)):=by
 obtain⟨v0,c0,o0,-⟩:=h.wf.cell h.blk i 0 hi (by rw[aJ8];omega)
 obtain⟨v2,c2,o2,-⟩:=h.wf.cell h.blk i 2 hi (by rw[aJ8];omega)
 rw[aJ8] at c0 c2
 obtain⟨n,rfl,z0,hsc⟩:NmOk bdL.st v0:=by simpa[aA7] using o0
 obtain⟨fa,fl,fp,rfl,q1,q2,q3,q4⟩:SlOk σL 54 bdL.nf v2:=by simpa[aA7] using o2
 refine⟨n,fa,fl,fp,c0,c2,z0,hsc rfl,q1,fun h0=>?_⟩
 rcases q4 with⟨-,h,-⟩| ⟨b,e,hb⟩
 ·omega
 ·exact⟨b,e,q2,hb⟩
theorem LSt.field{w wx:World}{σ σL:Sh}{tb pb:Nat}(h:LSt w wx σ σL tb pb){b k fp:Nat}(hb:σL b=some (54,fp))(hk:k<fp):
  ∃(fn fo:ByteArray) (l m fr hd sh:Bool) (na:Option Addr) (nl nc:Nat),wx.cell? ⟨b,k*8,none⟩=some (.string fn)∧wx.cell? ⟨b,k*8+1,none⟩=some (.string fo)∧wx.cell? ⟨b,k*8+2,none⟩=some (.bool l)∧wx.cell? ⟨b,k*8+3,none⟩=some (.bool m)∧wx.cell? ⟨b,k*8+4,none⟩=some (.bool fr)∧wx.cell? ⟨b,k*8+5,none⟩=some (.bool hd)∧wx.cell? ⟨b,k*8+6,none⟩=some (.bool sh)∧wx.cell? ⟨b,k*8+7,none⟩=some (.slice na nl nc)∧fn.size≤12∧fo.size≤12∧SlOk σ 9 1 (.slice na nl nc):=by
 have hc:=fun j (hj:j<8)=>h.wf.cell hb k j hk (by rw[aMC];exact hj)
 simp only[aMC] at hc
 obtain⟨v0,c0,o0,-⟩:=hc 0 (by omega)
 obtain⟨v1,c1,o1,-⟩:=hc 1 (by omega)
 obtain⟨v2,c2,o2,-⟩:=hc 2 (by omega)
 obtain⟨v3,c3,o3,-⟩:=hc 3 (by omega)
 obtain⟨v4,c4,o4,-⟩:=hc 4 (by omega)
 obtain⟨v5,c5,o5,-⟩:=hc 5 (by omega)
 obtain⟨v6,c6,o6,-⟩:=hc 6 (by omega)
 obtain⟨v7,c7,o7,-⟩:=hc 7 (by omega)
 obtain⟨fn,rfl,z0⟩:StOk v0:=by simpa[aA7] using o0
 obtain⟨fo,rfl,z1⟩:StOk v1:=by simpa[aA7] using o1
 obtain⟨l,rfl⟩:BoOk v2:=by simpa[aA7] using o2
 obtain⟨m,rfl⟩:BoOk v3:=by simpa[aA7] using o3
 obtain⟨fr,rfl⟩:BoOk v4:=by simpa[aA7] using o4
 obtain⟨hd,rfl⟩:BoOk v5:=by simpa[aA7] using o5
 obtain⟨sh,rfl⟩:BoOk v6:=by simpa[aA7] using o6
 obtain⟨na,nl,nc,rfl,q1,q2,q3,q4⟩:SlOk σL 9 bdL.nn v7:=by simpa[aA7] using o7
 exact⟨fn,fo,l,m,fr,hd,sh,na,nl,nc,c0,c1,c2,c3,c4,c5,c6,c7,z0,z1,⟨na,nl,nc,rfl,q1,q2,q3,q4.imp id fun⟨x,e,hx⟩=>⟨x,e,h.str _ _ hx⟩⟩⟩
theorem aRB{w:World}{rb cb n:Nat}{wx:World}{σ σL:Sh}{c q pb pc tb:Nat}{ps:List Pv}(h:RSt w rb cb n wx σ σL c q pb pc tb ps)(hc:c≤1000){i:Nat}(hi:i<n){p:Pv}(hp:PvOk σ (bdP c) p){nm fn fo:ByteArray}{l m fr hd sh:Bool}{na:Option Addr}{nl nc:Nat}(hnm:nm.size≤12)(hsc:aAF nm=false)(hfn:fn.size≤12)(hfo:fo.size≤12)(hsl:SlOk σ 9 1 (.slice na nl nc)):
  Calls Tryz.prog 100 #[.agg #[.string p.s,.slice (some ⟨p.b,0,none⟩) p.len p.cap],.string nm,.agg #[.string fn,.string fo,.bool l,.bool m,.bool fr,.bool hd,.bool sh,.slice na nl nc]] wx fun e wy=>∃(p':Pv) (σ':Sh),e=.returned (.agg #[.string p'.s,.slice (some ⟨p'.b,0,none⟩) p'.len p'.cap])∧(∃v0 v1,wy.cell? ⟨pb,i*2,none⟩=some v0∧wy.cell? ⟨pb,i*2+1,none⟩=some v1∧wy.frozen? ⟨pb,i*2,none⟩=false∧wy.frozen? ⟨pb,i*2+1,none⟩=false)∧
   Hid (RSt w rb cb n ((wy.setCell ⟨pb,i*2,none⟩ (.string p'.s)).setCell ⟨pb,i*2+1,none⟩ (.slice (some ⟨p'.b,0,none⟩) p'.len p'.cap)) σ' σL (c+1) q pb pc tb (ps.set i p')∧(∀fx cs,FBx w wx σ pb fx cs→FBx w ((wy.setCell ⟨pb,i*2,none⟩ (.string p'.s)).setCell ⟨pb,i*2+1,none⟩ (.slice (some ⟨p'.b,0,none⟩) p'.len p'.cap)) σ' pb fx cs)∧Ext σ σ'∧(∀b T m,σL b=some (T,m)→wy.heap[b]?=wx.heap[b]?∧b≠pb)∧(∀fx cs,FBx w wx σ pb fx cs→wy.heap[fx]?=wx.heap[fx]?)):=by
 refine(aNO wx σ (bdP c) p.s nm fn fo l m fr hd sh na nl nc p.b p.len p.cap h.p.wf hp.1 hp.2.2.2.2.2 hp.2.2.2.1 hp.2.2.2.2.1 (by have:=hp.2.2.1;simp only[bdP] at this;omega) hnm hsc hfn hfo hsl (Nat.le_refl _) (by simp only[bdP];omega) (by simp only[bdP];omega)).mono ?_
 rintro e wy ⟨σ',b',len',cap',rfl,W',x',s',o',hl1,hl2,hlc,hcm,hb'⟩
 have hpl:=h.p.plt
 have nhp:¬Hot σ pb:=fun⟨T,m,hT,_⟩=>by rw[h.p.npb] at hT;cases hT
 obtain⟨p0,-,c0,c1,f0,f1⟩:=h.p.cells i hi
 have hk:=o'.block pb hpl.2 nhp
 have hok:PvOk σ' (bdP (c+1)) ⟨p.s,b',len',cap'⟩:=⟨hp.1,by have:=hp.2.1;simp only;omega,by have:=hp.2.2.1;simp only[bdP] at this ⊢;omega,hlc,hcm,hb'⟩
 have hset:∀x,x≠pb→((wy.setCell ⟨pb,i*2,none⟩ (.string p.s)).setCell ⟨pb,i*2+1,none⟩ (.slice (some ⟨b',0,none⟩) len' cap')).heap[x]?=wy.heap[x]?:=fun x hx=>by rw[Below.heap_setCell _ _ _ _ hx,Below.heap_setCell _ _ _ _ hx]
 have hL:∀b T m,σL b=some (T,m)→¬Hot σ b∧b≠pb:=fun b T m hb=>by
  by_cases hT:T=9
  ·subst hT
   have hs:=h.l.str b m hb
   exact⟨fun⟨T',m',h1,h2⟩=>by rw[hs] at h1;cases h1;exact h2 rfl,fun e=>by subst e;rw[h.p.npb] at hs;cases hs⟩
  ·have hs:=h.l.sep b T m hb hT
   exact⟨(fun⟨T',m',h1,h2⟩=>by rw[hs.1] at h1;cases h1),hs.2⟩
 refine⟨⟨p.s,b',len',cap'⟩,σ',rfl,⟨_,_,(World.cell?_of_block (a:=⟨pb,i*2,none⟩) hk).trans c0,(World.cell?_of_block (a:=⟨pb,i*2+1,none⟩) hk).trans c1,(World.frozen?_of_block (a:=⟨pb,i*2,none⟩) hk).trans f0,(World.frozen?_of_block (a:=⟨pb,i*2+1,none⟩) hk).trans f1⟩,⟨h.p.give hi ⟨p.s,b',len',cap'⟩ W' x' s' o' hok,?_⟩,fun fx cs hf=>?_,x',fun b T m hb=>⟨o'.block b (h.l.wf.lt hb) (hL b T m hb).1,(hL b T m hb).2⟩,fun fx cs hf=>o'.block fx hf.lt (fun⟨T,m,hT,_⟩=>by rw[hf.nil] at hT;cases hT)⟩
 ·exact⟨h.l.wf.keep fun b T m hb=>(hset b (hL b T m hb).2).trans (o'.block b (h.l.wf.lt hb) (hL b T m hb).1),h.l.blk,h.l.new,fun b m hb=>x' _ _ _ (h.l.str b m hb),fun b T m hb hT=>by rw[s' b (h.l.wf.lt hb)];exact h.l.sep b T m hb hT⟩
 ·exact⟨(hset fx hf.ne).trans ((o'.block fx hf.lt (fun⟨T,m,hT,_⟩=>by rw[hf.nil] at hT;cases hT)).trans hf.box),by rw[s' fx hf.lt];exact hf.nil,hf.ne,hf.new⟩
end Go.Proofs.YtokmgbidmnanpaaGreatDoor
namespace Go.Proofs.YtokmgbidmnanpaaGreatDoor
open Go.RowKit
theorem aFG(FW:World)(tmps:Array Value)(N:Nat)(ok:Bool)(v0 v1 v2 v3 v4 v5 v6 v7:Value)(h6:tmps.getD 6 undef=.pointer (some ⟨N,0,none⟩))(h7:tmps.getD 7 undef=.bool ok)
  (d0:FW.cell? ⟨N,0,none⟩=some v0) (d1:FW.cell? ⟨N,1,none⟩=some v1) (d2:FW.cell? ⟨N,2,none⟩=some v2) (d3:FW.cell? ⟨N,3,none⟩=some v3) (d4:FW.cell? ⟨N,4,none⟩=some v4) (d5:FW.cell? ⟨N,5,none⟩=some v5) (d6:FW.cell? ⟨N,6,none⟩=some v6) (d7:FW.cell? ⟨N,7,none⟩=some v7):
  (results Tryz.f74 tmps).run Tryz.prog FW=.ok (.tuple #[.agg #[v0,v1,v2,v3,v4,v5,v6,v7],.bool ok]) FW:=by
 simp only[Array.getD_eq_getD_getElem?] at h6 h7
 simp[results,Tryz.results74,go_sem,h6,h7,d0,d1,d2,d3,d4,d5,d6,d7]
def getF(p:Pt)(s f:ByteArray):F:=if 0≤aCD p s then aBU (aAY p s) f else F.zero
def getB(p:Pt)(s f:ByteArray):Bool:=decide (0≤aCD p s)&&decide (0≤aAC (aAY p s) f)
set_option maxRecDepth 20000 in
set_option maxHeartbeats 3200000 in
theorem aIR(p:Pt)(s f:ByteArray)(w:World)(B:Nat)(v:Value)(hP:PRep w (·<B) p v)(hB:B≤w.heap.size):
  Calls Tryz.prog 74 #[v,.string s,.string f] w fun e w'=>∃(nm of:ByteArray) (l m fr hi sh:Bool) (na:Option Addr) (nc:Nat),
   e=.returned (.tuple #[.agg #[.string nm,.string of,.bool l,.bool m,.bool fr,.bool hi,.bool sh,.slice na (getF p s f).needs.length nc],.bool (getB p s f)])∧Below w.heap.size w w'∧
   FRep w' (·<B) (getF p s f) (.agg #[.string nm,.string of,.bool l,.bool m,.bool fr,.bool hi,.bool sh,.slice na (getF p s f).needs.length nc]):=by
 have hP':=hP
 obtain⟨pname,types⟩:=p
 obtain⟨ta,tc,rfl,hK,hnc,hpn⟩:=hP
 simp only at hK hnc hpn hP'
 obtain⟨X,hXe⟩:∃X,X=((w.alloc (.cells #[.string pname,.slice ta types.length tc] 43)).alloc (.cells #[.string ByteArray.empty,.string ByteArray.empty,.bool false,.bool false,.bool false,.bool false,.bool false,.slice none 0 0] 54)):=⟨_,rfl⟩
 have PC:∀W,Below (w.heap.size+1+1) X W→W.cell? ⟨w.heap.size,0,none⟩=some (.string pname)∧W.cell? ⟨w.heap.size,1,none⟩=some (.slice ta types.length tc)∧W.heap[w.heap.size+1]?=some (.cells #[.string ByteArray.empty,.string ByteArray.empty,.bool false,.bool false,.bool false,.bool false,.bool false,.slice none 0 0] 54 (0,0))∧Below w.heap.size w W∧w.heap.size+1<W.heap.size:=fun W h=>by
  subst hXe
  have hz:=h.size
  simp at hz
  have a:∀i (hi:i<2),W.cell? ⟨w.heap.size,i,none⟩=some #[Value.string pname,.slice ta types.length tc][i]:=fun i hi=>(h.cell (p:=⟨w.heap.size,i,none⟩) (by show w.heap.size<_;omega)).trans (((aA2 _ _).cell (p:=⟨w.heap.size,i,none⟩) (by show w.heap.size<_;simp)).trans (aBQ _ _ i (by simpa using hi)))
  have hb:W.heap[w.heap.size+1]?=some (.cells #[.string ByteArray.empty,.string ByteArray.empty,.bool false,.bool false,.bool false,.bool false,.bool false,.slice none 0 0] 54 (0,0)):=(h.block (w.heap.size+1) (by omega)).trans (by have:=heap_alloc_new (w.alloc (.cells #[.string pname,.slice ta types.length tc] 43)) (.cells #[.string ByteArray.empty,.string ByteArray.empty,.bool false,.bool false,.bool false,.bool false,.bool false,.slice none 0 0] 54);simpa using this)
  exact⟨a 0 (by omega),a 1 (by omega),hb,(aA5 w _ _).trans (h.mono (by omega)),by omega⟩
 have hT0:Below (w.heap.size+1+1) X ((w.alloc (.cells #[.string pname,.slice ta types.length tc] 43)).alloc (.cells #[.string ByteArray.empty,.string ByteArray.empty,.bool false,.bool false,.bool false,.bool false,.bool false,.slice none 0 0] 54)):=by rw[hXe];exact Below.refl _ _
 clear hXe
 have hBW:=fun W (h:Below (w.heap.size+1+1) X W)=>show B≤W.heap.size by have:=(PC W h).2.2.2.2;omega
 have hI:=fun W h=>aCU ⟨pname,types⟩ W B _ s (hP'.under ((PC W h).2.2.2.1.mono hB)) (hBW W h)
 have HTX:Hid (aCD ⟨pname,types⟩ s=aAI (fun i=>(tth types i).name.toList==s.toList) types.length):=rfl
 simp only at hI
 rw[←HTX.out] at hI
 have I1:=hI _ hT0
 rcases aAB (fun i=>(tth types i).name.toList==s.toList) types.length with⟨hx,-⟩| ⟨g,hx,hg,-,-⟩
 ·rw[←HTX.out] at hx
  have HA:Hid (getF ⟨pname,types⟩ s f=F.zero∧getB ⟨pname,types⟩ s f=false):=⟨by rw[getF,if_neg (by rw[hx];omega)],by rw[getB,hx];simp⟩
  rw[hx] at I1
  clear hx
  go_enter Tryz.func74,Tryz.ntmps74
  go_wp2_with (first
   |(
    go_at_call 112
    refine I1.mono ?_
    rintro e w1 ⟨rfl,hb1⟩
    have hT1:=hT0.trans (hb1.mono (by simp))
    obtain⟨q0,q1,hbx,hw1,hz1⟩:=PC w1 hT1
    obtain⟨a0,b0⟩:=aA1 hbx 0 (by simp)
    obtain⟨a1,b1⟩:=aA1 hbx 1 (by simp)
    obtain⟨a2,b2⟩:=aA1 hbx 2 (by simp)
    obtain⟨a3,b3⟩:=aA1 hbx 3 (by simp)
    obtain⟨a4,b4⟩:=aA1 hbx 4 (by simp)
    obtain⟨a5,b5⟩:=aA1 hbx 5 (by simp)
    obtain⟨a6,b6⟩:=aA1 hbx 6 (by simp)
    obtain⟨a7,b7⟩:=aA1 hbx 7 (by simp)))
  obtain⟨d0,d1,d2,d3,d4,d5,d6,d7⟩:=aBB hbx rfl (.string ⟨#[]⟩) (.string ⟨#[]⟩) (.bool false) (.bool false) (.bool false) (.bool false) (.bool false) (.slice none 0 0) _ rfl
  refine bodyPost_ret (aFG _ _ (w.heap.size+1) false (.string ⟨#[]⟩) (.string ⟨#[]⟩) (.bool false) (.bool false) (.bool false) (.bool false) (.bool false) (.slice none 0 0) rfl rfl d0 d1 d2 d3 d4 d5 d6 d7) rfl ?_
  rw[HA.out.1,HA.out.2]
  exact⟨_,_,_,_,_,_,_,_,_,rfl,aAN hw1 (Nat.le_succ _) _ _ _ _ _ _ _ _,FRep.zero _ _⟩
 rw[←HTX.out] at hx
 have hto:aAY ⟨pname,types⟩ s=tth types g:=by rw[aAY,if_pos (by rw[hx];omega),hx];rfl
 have HA0:Hid (getF ⟨pname,types⟩ s f=aBU (tth types g) f∧getB ⟨pname,types⟩ s f=decide (0≤aAC (tth types g) f)):=⟨by rw[getF,if_pos (by rw[hx];omega),hto],by rw[getB,hx,hto];simp⟩
 rw[hx] at I1
 clear hx hto
 obtain⟨b,off,fa,fc,rfl,htr,hcs⟩:=hK.at hB g hg
 obtain⟨fa',fc',e0,e1,e2,hff,hffc,hs1,hs2⟩:=htr.parts
 simp only[Value.slice.injEq] at e2
 obtain⟨rfl,-,rfl⟩:=e2
 clear e0 e1
 have hgi:(g:Int)<(types.length:Int):=by omega
 have hg0:¬(g:Int)<0:=by omega
 have hL:=fun W h=>aCL (tth types g) W B _ f (htr.under ((PC W h).2.2.2.1.mono hB)) (hBW W h)
 have HFX:Hid (aAC (tth types g) f=aAI (fun i=>(fth (tth types g).fields i).name.toList==f.toList) (tth types g).fields.length):=rfl
 rcases aAB (fun i=>(fth (tth types g).fields i).name.toList==f.toList) (tth types g).fields.length with⟨hx,-⟩| ⟨h,hx,hh,-,-⟩
 ·rw[hx] at hL
  have HA:Hid (getF ⟨pname,types⟩ s f=F.zero∧getB ⟨pname,types⟩ s f=false):=⟨by rw[HA0.out.1,aBU,if_neg (by rw[HFX.out,hx];omega)],by rw[HA0.out.2,HFX.out,hx];rfl⟩
  clear hx
  go_enter Tryz.func74,Tryz.ntmps74
  go_wp2_with (first
   |(
    go_at_call 112
    refine I1.mono ?_
    rintro e w1 ⟨rfl,hb1⟩
    have hT1:=hT0.trans (hb1.mono (by simp))
    obtain⟨q0,q1,-,hw1,hz1⟩:=PC w1 hT1
    obtain⟨c0,c1,c2⟩:=hcs w1 hw1)
   |(
    go_at_call 113
    refine(hL w1 hT1).mono ?_
    rintro e w3 ⟨rfl,hb3⟩
    have hT3:=hT1.trans (hb3.mono (by omega))
    obtain⟨y0,y1,hbx,hw3,hz3⟩:=PC w3 hT3
    obtain⟨a0,b0⟩:=aA1 hbx 0 (by simp)
    obtain⟨a1,b1⟩:=aA1 hbx 1 (by simp)
    obtain⟨a2,b2⟩:=aA1 hbx 2 (by simp)
    obtain⟨a3,b3⟩:=aA1 hbx 3 (by simp)
    obtain⟨a4,b4⟩:=aA1 hbx 4 (by simp)
    obtain⟨a5,b5⟩:=aA1 hbx 5 (by simp)
    obtain⟨a6,b6⟩:=aA1 hbx 6 (by simp)
    obtain⟨a7,b7⟩:=aA1 hbx 7 (by simp)))
  obtain⟨d0,d1,d2,d3,d4,d5,d6,d7⟩:=aBB hbx rfl (.string ⟨#[]⟩) (.string ⟨#[]⟩) (.bool false) (.bool false) (.bool false) (.bool false) (.bool false) (.slice none 0 0) _ rfl
  refine bodyPost_ret (aFG _ _ (w.heap.size+1) false (.string ⟨#[]⟩) (.string ⟨#[]⟩) (.bool false) (.bool false) (.bool false) (.bool false) (.bool false) (.slice none 0 0) rfl rfl d0 d1 d2 d3 d4 d5 d6 d7) rfl ?_
  rw[HA.out.1,HA.out.2]
  exact⟨_,_,_,_,_,_,_,_,_,rfl,aAN hw3 (Nat.le_succ _) _ _ _ _ _ _ _ _,FRep.zero _ _⟩
 rw[hx] at hL
 have HA:Hid (getF ⟨pname,types⟩ s f=fth (tth types g).fields h∧getB ⟨pname,types⟩ s f=true):=⟨by rw[HA0.out.1,aBU,HFX.out,hx,if_pos (by omega)];rfl,by rw[HA0.out.2,HFX.out,hx];simp⟩
 clear hx HA0 HFX
 obtain⟨fb,foff,na,nc,rfl,hfr,hcf⟩:=hff.at hB h hh
 have hhi:(h:Int)<((tth types g).fields.length:Int):=by omega
 have hh0:¬(h:Int)<0:=by omega
 generalize fth (tth types g).fields h=ff at*
 go_enter Tryz.func74,Tryz.ntmps74
 go_wp2_with (first
  |(
   go_at_call 112
   refine I1.mono ?_
   rintro e w1 ⟨rfl,hb1⟩
   have hT1:=hT0.trans (hb1.mono (by simp))
   obtain⟨q0,q1,-,hw1,hz1⟩:=PC w1 hT1
   obtain⟨c0,c1,c2⟩:=hcs w1 hw1)
  |(
   go_at_call 113
   refine(hL w1 hT1).mono ?_
   rintro e w3 ⟨rfl,hb3⟩
   have hT3:=hT1.trans (hb3.mono (by omega))
   obtain⟨y0,y1,hbx,hw3,hz3⟩:=PC w3 hT3
   obtain⟨c30,c31,c32⟩:=hcs w3 hw3
   obtain⟨g0,g1,g2,g3,g4,g5,g6,g7⟩:=hcf w3 hw3
   obtain⟨a0,b0⟩:=aA1 hbx 0 (by simp)
   obtain⟨a1,b1⟩:=aA1 hbx 1 (by simp)
   obtain⟨a2,b2⟩:=aA1 hbx 2 (by simp)
   obtain⟨a3,b3⟩:=aA1 hbx 3 (by simp)
   obtain⟨a4,b4⟩:=aA1 hbx 4 (by simp)
   obtain⟨a5,b5⟩:=aA1 hbx 5 (by simp)
   obtain⟨a6,b6⟩:=aA1 hbx 6 (by simp)
   obtain⟨a7,b7⟩:=aA1 hbx 7 (by simp)))
 obtain⟨d0,d1,d2,d3,d4,d5,d6,d7⟩:=aBB hbx rfl (.string ff.name) (.string ff.of) (.bool ff.list) (.bool ff.must) (.bool ff.far) (.bool ff.hidden) (.bool ff.shared) (.slice na ff.needs.length nc) _ rfl
 refine bodyPost_ret (aFG _ _ (w.heap.size+1) true (.string ff.name) (.string ff.of) (.bool ff.list) (.bool ff.must) (.bool ff.far) (.bool ff.hidden) (.bool ff.shared) (.slice na ff.needs.length nc) rfl rfl d0 d1 d2 d3 d4 d5 d6 d7) rfl ?_
 rw[HA.out.1,HA.out.2]
 exact⟨_,_,_,_,_,_,_,_,_,rfl,aAN hw3 (Nat.le_succ _) _ _ _ _ _ _ _ _,hfr.mono fun k hk=>(aHJ (by omega) _ _ _ _ _ _ _ _ _).trans (hw3.block k (by omega))⟩
end Go.Proofs.YtokmgbidmnanpaaGreatDoor
namespace Go.Proofs.YtokmgbidmnanpaaGreatDoor
open Go.RowKit Go.Deep Go.ChangeShapes Go.WideShapes
theorem Tryz.cells5:Tryz.prog.cellsOf 5=1:=by kernel_rfl
theorem Tryz.bytes5:Tryz.prog.bytesOf 5=1:=by kernel_rfl
section
variable {H:Type} {enc:TypeId× Value→H} {w:World}
set_option maxRecDepth 20000 in
theorem aQF{b0:Nat}{v:Value}(hv:Value.okWide Tryz.prog w .any b0 22 v)(a:Option Addr)(n c:Nat)(hf:v=.slice a n c):a=none∨∃b o,a=some ⟨b,o,none⟩:=by
 subst hf
 rcases a with _| ⟨b,o,s⟩
 ·exact Or.inl rfl
 ·right
  simp only[Value.okWide,Tryz.underlying22,Cell.okWide,Cell.ok,World.has] at hv
  obtain⟨-,-,-,h,-⟩:=hv
  exact⟨b,o,by rw[h]⟩
set_option maxRecDepth 20000 in
theorem aQU{fuel b0:Nat}{c:Value}{x:DataW H× List MemPlace}(h:DataW.trod enc Tryz.prog w 0 (fun _=>true) true fuel 22 [c]=some x)(hl:aSD 22 x.1)(hv:Value.okWide Tryz.prog w .any b0 22 c)(hpos:0<w.heap.size):
  ∃(n cap cb:Nat) (a:Option Addr),c=.slice a n cap∧aHX w cb c n:=by
 have hcap:∀a n cap,c=.slice a n cap→cap≤maxLen:=fun a n cap e=>by
  subst e
  rcases DataW.trod_slice Tryz.underlying22 h with⟨hc0,-⟩| ⟨a',len,cap',elems,rest,n',hfu,hc0,-,-,hlc,hcm,-⟩
  ·simp at hc0;omega
  ·simp at hc0;omega
 obtain⟨ns,na,nc,C,rfl,hnc,hb,hA,hr⟩:=aQR (0:Int) (fun n cs=>cs=[.int .u8 n]∧(Lit.int .u8 n).wf=true) 22 5 1 1 Tryz.underlying22 Tryz.cells5 Tryz.bytes5 (by omega) h hl (fun m cs y hy _=>by
  obtain⟨n,rfl,-,hw⟩:=DataW.trod_int Tryz.underlying5 hy
  exact⟨rfl,n,rfl,hw⟩)
 have hform:=aQF hv na ns.length nc rfl
 have hm:=hcap _ _ _ rfl
 rcases Nat.eq_zero_or_pos ns.length with h0| h0
 ·exact⟨ns.length,nc,0,na,rfl,na,nc,0,rfl,hnc,hm,hpos,fun h=>by omega,hform,fun i hi=>by omega⟩
 ·obtain⟨b,off,e,hlt,hc⟩:=hA h0
  refine⟨ns.length,nc,b,na,rfl,na,nc,off,rfl,hnc,hm,hlt,fun _=>e,Or.inr ⟨b,off,e⟩,fun i hi=>?_⟩
  have h1:=hc i hi 0 (by omega)
  obtain⟨h2,hw⟩:=hr i hi
  simp only[List.range,List.range.loop,List.map_cons,List.map_nil,List.cons.injEq,and_true] at h2
  rw[h2] at h1
  have hw2:0≤ns.getD i 0∧ns.getD i 0≤255:=by
   have h3:=hw
   simp[Lit.wf] at h3
   first| exact h3| (simp[IntKind.min,IntKind.max] at h3;omega)
  refine⟨(ns.getD i 0).toNat,by omega,?_⟩
  rw[Nat.mul_one,Nat.add_zero] at h1
  rw[h1,Int.toNat_of_nonneg hw2.1]
end
end Go.Proofs.YtokmgbidmnanpaaGreatDoor
