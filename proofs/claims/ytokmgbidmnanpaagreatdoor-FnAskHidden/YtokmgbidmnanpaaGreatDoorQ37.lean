import Derived.Test.YtokmgbidmnanpaaGreatDoorQ23
import Derived.Test.YtokmgbidmnanpaaGreatDoorQ27
import Derived.Test.YtokmgbidmnanpaaGreatDoorQ14
import Derived.Test.YtokmgbidmnanpaaGreatDoorQ24
import Derived.Test.YtokmgbidmnanpaaGreatDoorQ9
import Derived.Test.YtokmgbidmnanpaaGreatDoorQ31
import Derived.Test.YtokmgbidmnanpaaGreatDoorQ2
import Derived.Test.YtokmgbidmnanpaaGreatDoorQ34
set_option linter.unusedSimpArgs false
set_option linter.unusedVariables false
namespace Go.Proofs.YtokmgbidmnanpaaGreatDoor
open Go.RowKit Go.Maps
attribute [local go_sem] Oper.semAt_some
theorem SmT.le{a b nn:Nat}{t:T}(h:SmT a nn t)(hab:a≤b):SmT b nn t:=⟨h.1,h.2.1,Nat.le_trans h.2.2.1 hab,h.2.2.2⟩
end Go.Proofs.YtokmgbidmnanpaaGreatDoor
namespace Go.Proofs.YtokmgbidmnanpaaGreatDoor
open Go.RowKit Go.Maps
theorem PSt.list{w:World}{rb cb n:Nat}{wx:World}{σ:Sh}{c q pb pc:Nat}{ps:List Pv}(h:PSt w rb cb n wx σ c q pb pc ps)(hn:n≤3)(hc:c≤56):
  ∃qs:List Pt,qs.length=n∧aCR wx (fun b=>w.heap.size≤b∧b<wx.heap.size) qs (some ⟨pb,0,none⟩)∧∀i,i<n→szP (pth qs i)≤900000:=by
 have hk:∀i,∃r:Pt× Value× Value,i<n→wx.cell? ⟨pb,i*2,none⟩=some r.2.1∧wx.cell? ⟨pb,i*2+1,none⟩=some r.2.2∧PRep wx (fun b=>w.heap.size≤b∧b<wx.heap.size) r.1 (.agg #[r.2.1,r.2.2])∧szP r.1≤900000:=by
  intro i
  by_cases hi:i<n
  ·obtain⟨p,⟨h1,h2,h3,h4,h5,h6⟩,c0,c1,-⟩:=h.cells i hi
   have hL:Laid w wx σ (bdP c) p.s p.b 0 p.len p.cap p.cap:=⟨h.wf,h.new,h6,by omega,by have:(bdP c).nt=1+2*c:=rfl;omega,h4,by have:(bdP c).nn=1:=rfl;omega,by have:(bdP c).nf=7+2*c:=rfl;omega,h1⟩
   obtain⟨x,hP,hz⟩:=hL.partN
   rw[Nat.zero_mul] at hP
   exact⟨(x,_,_),fun _=>⟨c0,c1,hP,hz⟩⟩
  ·exact⟨(Pt.zero,undef,undef),fun h=>absurd h hi⟩
 obtain⟨f,hf⟩:=Classical.skolem.1 hk
 have hl:((List.range n).map fun i=>(f i).1).length=n:=by simp
 have hat:∀i,i<n→pth ((List.range n).map fun i=>(f i).1) i=(f i).1:=fun i hi=>by simp[pth,List.getD_eq_getElem?_getD,hi]
 have hp:=h.plt
 refine⟨(List.range n).map fun i=>(f i).1,hl,⟨by rw[hl];omega,fun i j=>if j=0 then(f i).2.1 else(f i).2.2,fun _=>⟨pb,0,rfl,hp,fun i hi j hj=>?_⟩,fun i hi=>?_⟩,fun i hi=>?_⟩
 ·rw[hl] at hi
  obtain⟨c0,c1,-⟩:=hf i hi
  rw[Nat.zero_add]
  by_cases e:j=0
  ·subst e;simpa using c0
  ·have:j=1:=by omega
   subst this;simpa using c1
 ·rw[hl] at hi
  rw[hat i hi]
  simpa using(hf i hi).2.2.1
 ·rw[hat i hi];exact(hf i hi).2.2.2
end Go.Proofs.YtokmgbidmnanpaaGreatDoor
namespace Go.Proofs.YtokmgbidmnanpaaGreatDoor
open Go.RowKit Go.Maps
theorem aV3{w0 w:World}{P:Nat→Prop}{base gF capF gD capD:Nat}{fs:List F}{Cf:Nat→Nat→Value}(g:F)
  (hr:∀i,i<fs.length→FRep w0 P (fth fs i) (.agg #[Cf i 0,Cf i 1,Cf i 2,Cf i 3,Cf i 4,Cf i 5,Cf i 6,Cf i 7])) (hk:∀b,P b→w.heap[b]?=w0.heap[b]?)
  (h:w.ownsRow base 54 8 (.slice (some ⟨gF,0,none⟩) (fs.length+1) capF) (fs.length+1) (aCP Cf fs.length++[.string g.name,.string g.of,.bool g.list,.bool g.must,.bool g.far,.bool g.hidden,.bool g.shared,.slice (some ⟨gD,0,none⟩) g.needs.length capD]))
  (hd:w.ownsRow base 9 1 (.slice (some ⟨gD,0,none⟩) g.needs.length capD) g.needs.length (g.needs.map Value.string))
  (hcd:g.needs.length≤capD) (hs:∀i,(nth g.needs i).size≤maxLen) (hl:g.needs.length≤1000000000) (hl2:fs.length≤1000000000) (h1:g.name.size≤maxLen) (h2:g.of.size≤maxLen):
  aC6 w (fun b=>P b∨(base≤b∧b<w.heap.size)) (fs++[g]) (some ⟨gF,0,none⟩):=by
 have hD:=aS6 (n:=0) hd hs (by unfold maxLen;omega)
 refine⟨by simp;omega,fun i j=>if i<fs.length then Cf i j else([.string g.name,.string g.of,.bool g.list,.bool g.must,.bool g.far,.bool g.hidden,.bool g.shared,.slice (some ⟨gD,0,none⟩) g.needs.length capD]:List Value).getD j undef,fun _=>⟨gF,0,rfl,Or.inr (h.lt gF rfl),fun i hi j hj=>?_⟩,fun i hi=>?_⟩
 ·have hi':i<fs.length+1:=by simpa using hi
  rw[Nat.zero_add,h.cellAt (i*8+j) (by omega)]
  show _=some (if i<fs.length then Cf i j else _)
  by_cases hlt:i<fs.length
  ·rw[if_pos hlt,List.getElem?_append_left (by rw[aDA];omega),aLN _ _ _ _ hlt hj]
  ·have:i=fs.length:=by omega
   subst this
   rw[if_neg hlt,List.getElem?_append_right (by rw[aDA];omega),aDA,Nat.add_sub_cancel_left]
   rcases j with _| _| _| _| _| _| _| _| j
   all_goals first| rfl| omega
 ·have hi':i<fs.length+1:=by simpa using hi
  by_cases hlt:i<fs.length
  ·simp only[if_pos hlt]
   rw[aJJ _ _ _ hlt]
   exact((hr i hlt).mono hk).sub fun b hb=>Or.inl hb
  ·have:i=fs.length:=by omega
   subst this
   simp only[if_neg hlt]
   rw[aJE]
   exact⟨_,capD,rfl,hD.sub fun b hb=>Or.inr hb,hcd,h1,h2,by omega⟩
theorem aIJ{B N:Nat}{a w:World}(h:Below B a w)(hN:B≤N)(v0 v1 v2:Value):
  Below B a (((w.setCell ⟨N,0,none⟩ v0).setCell ⟨N,1,none⟩ v1).setCell ⟨N,2,none⟩ v2):=
 aD2 hN [v0,v1,v2] w 0 h
theorem aJI{N b:Nat}(h:b≠N)(w:World)(v0 v1 v2:Value):
  (((w.setCell ⟨N,0,none⟩ v0).setCell ⟨N,1,none⟩ v1).setCell ⟨N,2,none⟩ v2).heap[b]?=w.heap[b]?:=
 aCX N b h [v0,v1,v2] w 0
theorem aKG{N:Nat}(w:World)(v0 v1 v2:Value):
  (((w.setCell ⟨N,0,none⟩ v0).setCell ⟨N,1,none⟩ v1).setCell ⟨N,2,none⟩ v2).heap.size=w.heap.size:=
 aMA N [v0,v1,v2] w 0
theorem aDY{w:World}{N:Nat}{c:Array Value}{T:TypeId}(hb:w.heap[N]?=some (.cells c T (0,0)))(hc:c.size=3)(v0 v1 v2:Value):
  (((w.setCell ⟨N,0,none⟩ v0).setCell ⟨N,1,none⟩ v1).setCell ⟨N,2,none⟩ v2).cell? ⟨N,0,none⟩=some v0∧(((w.setCell ⟨N,0,none⟩ v0).setCell ⟨N,1,none⟩ v1).setCell ⟨N,2,none⟩ v2).cell? ⟨N,1,none⟩=some v1∧(((w.setCell ⟨N,0,none⟩ v0).setCell ⟨N,1,none⟩ v1).setCell ⟨N,2,none⟩ v2).cell? ⟨N,2,none⟩=some v2:=by
 have hrow:w.rowIs N T 3 (fun i=>c[i]?.getD undef):=⟨c,hb,hc,fun i hi=>by simp[show i<c.size by omega]⟩
 obtain⟨G',hG2,hG1,-⟩:=aID [v0,v1,v2] 0 hrow
 have g:∀j,j<3→(((w.setCell ⟨N,0,none⟩ v0).setCell ⟨N,1,none⟩ v1).setCell ⟨N,2,none⟩ v2).cell? ⟨N,j,none⟩=some ([v0,v1,v2].getD j undef):=fun j hj=>by
  have:=hG1 j hj
  rw[Nat.zero_add] at this
  exact(hG2.cell hj).trans (congrArg some this)
 exact⟨g 0 (by omega),g 1 (by omega),g 2 (by omega)⟩
theorem aEK(FW:World)(tmps:Array Value)(N:Nat)(v0 v1 v2:Value)(h4:tmps.getD 4 undef=.pointer (some ⟨N,0,none⟩))
  (d0:FW.cell? ⟨N,0,none⟩=some v0) (d1:FW.cell? ⟨N,1,none⟩=some v1) (d2:FW.cell? ⟨N,2,none⟩=some v2):
  (results Tryz.f154 tmps).run Tryz.prog FW=.ok (.agg #[v0,v1,v2]) FW:=by
 simp only[Array.getD_eq_getD_getElem?] at h4
 simp[results,Tryz.results154,go_sem,h4,d0,d1,d2]
theorem aUU{t:T}{f:F}{v:Value}{na:Option Addr}{nc:Nat}{w wS:World}{P Q:Nat→Prop}{Cf:Nat→Nat→Value}{base gF capF gD capD N:Nat}(hT:TRep w P t v)(hF:FRep w Q f (fval f na nc))(hP:∀b,P b→b<w.heap.size)(hl:t.fields.length≤1000000000)(hl2:f.needs.length≤1000000000)(hx:aAC t f.name=-1)
  (hr:∀i,i<t.fields.length→FRep w P (fth t.fields i) (.agg #[Cf i 0,Cf i 1,Cf i 2,Cf i 3,Cf i 4,Cf i 5,Cf i 6,Cf i 7])) (hb:w.heap.size≤base) (hN:N<base) (hN2:w.heap.size≤N)
  (hO:wS.ownsRow base 54 8 (.slice (some ⟨gF,0,none⟩) (t.fields.length+1) capF) (t.fields.length+1) (aCP Cf t.fields.length++[.string f.name,.string f.of,.bool f.list,.bool f.must,.bool false,.bool f.hidden,.bool false,.slice (some ⟨gD,0,none⟩) f.needs.length capD])∧wS.ownsRow base 9 1 (.slice (some ⟨gD,0,none⟩) f.needs.length capD) f.needs.length (f.needs.map Value.string))
  (hcf:t.fields.length+1≤capF) (hcd:f.needs.length≤capD) (bS:Below w.heap.size w wS) (v0 v1 v2:Value) (W:World) (hW:W=(((wS.setCell ⟨N,0,none⟩ v0).setCell ⟨N,1,none⟩ v1).setCell ⟨N,2,none⟩ v2)):
  ∃fa' fc',(.returned (.agg #[.string t.name,.string t.key,.slice (some ⟨gF,0,none⟩) (t.fields.length+1) capF]):Ending)=.returned (.agg #[.string t.name,.string t.key,.slice fa' (putF t f).fields.length fc'])∧TRep W (fun b=>P b∨Q b∨(w.heap.size≤b∧b<W.heap.size)) (putF t f) (.agg #[.string t.name,.string t.key,.slice fa' (putF t f).fields.length fc'])∧Below w.heap.size w W:=by
 have hp:putF t f={ t with fields:=t.fields++[⟨f.name,f.of,f.list,f.must,false,f.hidden,false,f.needs⟩] }:=by rw[putF,if_neg (by rw[hx];omega)]
 have hln:(putF t f).fields.length=t.fields.length+1:=by rw[hp];simp
 have hbl:∀b,b≠N→W.heap[b]?=wS.heap[b]?:=fun b hb=>by rw[hW];exact aJI hb _ _ _ _
 have hsz:W.heap.size=wS.heap.size:=by rw[hW];exact aKG _ _ _ _
 have hbW:Below w.heap.size w W:=by rw[hW];exact aIJ bS hN2 _ _ _
 have oF:=aAT (w':=W) hO.1 fun j hj=>by cases hj;exact hbl gF (by have:=(hO.1.lt gF rfl).1;omega)
 have oD:=aAT (w':=W) hO.2 fun j hj=>by cases hj;exact hbl gD (by have:=(hO.2.lt gD rfl).1;omega)
 obtain⟨fa0,fc0,-,-,-,ht1,ht2⟩:=hT
 obtain⟨na',nc',-,hs,-,hf1,hf2,-⟩:=hF
 have hR:=aV3 (w0:=w) (w:=W) (P:=P) (⟨f.name,f.of,f.list,f.must,false,f.hidden,false,f.needs⟩:F) hr (fun b hb=>hbW.block b (hP b hb)) oF oD hcd hs.2.1 hl2 hl hf1 hf2
 refine⟨some ⟨gF,0,none⟩,capF,by rw[hln],⟨some ⟨gF,0,none⟩,capF,?_,?_,by rw[hln];exact hcf,?_,?_⟩,hbW⟩
 ·rw[hp]
 ·rw[hp]
  exact hR.sub fun b hb=>hb.elim Or.inl fun h=>Or.inr (Or.inr ⟨by omega,h.2⟩)
 ·rw[hp];exact ht1
 ·rw[hp];exact ht2
theorem aUK:(Tryz.prog.info? 54).map (fun i=>(i.zero.map fun z=>z.cells.size,i.size,i.bytes))=some (some 8,8,64):=by kernel_rfl
theorem aIH:∃(i:TypeInfo) (z:Value),Tryz.prog.info? 54=some i∧i.zero=some z∧i.size=8∧i.bytes=64∧z.cells.size=8:=by
 have h:=aUK
 cases hi:Tryz.prog.info? 54 with
 |none=>rw[hi] at h;cases h
 |some i=>
  rw[hi] at h
  simp only[Option.map_some,Option.some.injEq,Prod.mk.injEq] at h
  obtain⟨h1,h2,h3⟩:=h
  cases hz:i.zero with
  |none=>rw[hz] at h1;cases h1
  |some z=>
   rw[hz] at h1
   simp only[Option.map_some,Option.some.injEq] at h1
   exact⟨i,z,rfl,hz,h2,h3,h1⟩
end Go.Proofs.YtokmgbidmnanpaaGreatDoor
namespace Go.Proofs.YtokmgbidmnanpaaGreatDoor
open Go.RowKit Go.Maps
def Off(P:Nat→Prop)(B:Nat)(w:World)(v:Value)(b:Nat):Prop:=P b∨(B≤b∧b<w.heap.size∧v.ownBlock≠some b)
def aDB(w:World)(B:Nat)(P:Nat→Prop)(ts:List T)(v:Value):Prop:=∃C:Nat→Nat→Value,w.ownsRow B 52 3 v ts.length (aEE C ts.length)∧∀i,i<ts.length→TRep w (Off P B w v) (tth ts i) (.agg #[C i 0,C i 1,C i 2])
theorem aDB.nil(w:World)(B:Nat)(P:Nat→Prop):aDB w B P [] (.slice none 0 0):=⟨fun _ _=>undef,World.ownsRow_nil _ _ _ _,fun i hi=>absurd hi (Nat.not_lt_zero _)⟩
theorem aDB.keep{w w':World}{B:Nat}{P:Nat→Prop}{ts:List T}{v:Value}(h:aDB w B P ts v)(hP:∀b,P b→b<w.heap.size)(hb:Below w.heap.size w w'):aDB w' B P ts v:=by
 obtain⟨C,h1,h2⟩:=h
 refine⟨C,aBC h1 hb,fun i hi=>((h2 i hi).mono fun b hq=>hb.block b ?_).sub fun b hq=>?_⟩
 ·exact hq.elim (hP b) fun x=>x.2.1
 ·exact hq.elim Or.inl fun x=>Or.inr ⟨x.1,Nat.lt_of_lt_of_le x.2.1 hb.size,x.2.2⟩
theorem aDB.put{w:World}{B g n cap k:Nat}{P:Nat→Prop}{ts:List T}(h:aDB w B P ts (.slice (some ⟨g,0,none⟩) n cap))(hn:n=ts.length)(hk:k<ts.length)(hP:∀b,P b→b<B)(t:T)(d0 d1 d2:Value)(ht:TRep w (Off P B w (.slice (some ⟨g,0,none⟩) n cap)) t (.agg #[d0,d1,d2])):
  aDB (((w.setCell ⟨g,k*3,none⟩ d0).setCell ⟨g,k*3+1,none⟩ d1).setCell ⟨g,k*3+2,none⟩ d2) B P (ts.set k t) (.slice (some ⟨g,0,none⟩) n cap):=by
 subst hn
 obtain⟨C,h1,h2⟩:=h
 have hg:=(h1.lt g rfl).1
 have hset:=aRO C ts.length k hk (fun j=>[d0,d1,d2].getD j undef)
 have o1:=(h1.stored (k*3) d0).1
 have o2:=(o1.stored (k*3+1) d1).1
 have o3:=(o2.stored (k*3+2) d2).1
 have hbl:∀b,b≠g→(((w.setCell ⟨g,k*3,none⟩ d0).setCell ⟨g,k*3+1,none⟩ d1).setCell ⟨g,k*3+2,none⟩ d2).heap[b]?=w.heap[b]?:=fun b hb=>((Below.heap_setCell _ _ _ _ hb).trans (Below.heap_setCell _ _ _ _ hb)).trans (Below.heap_setCell _ _ _ _ hb)
 have hsz:(((w.setCell ⟨g,k*3,none⟩ d0).setCell ⟨g,k*3+1,none⟩ d1).setCell ⟨g,k*3+2,none⟩ d2).heap.size=w.heap.size:=by simp
 have hoff:∀b,Off P B w (.slice (some ⟨g,0,none⟩) ts.length cap) b→b≠g:=fun b hq e=>hq.elim (fun x=>by have:=hP b x;omega) fun x=>x.2.2 (by rw[e];rfl)
 have hmv:∀b,Off P B w (.slice (some ⟨g,0,none⟩) ts.length cap) b→Off P B (((w.setCell ⟨g,k*3,none⟩ d0).setCell ⟨g,k*3+1,none⟩ d1).setCell ⟨g,k*3+2,none⟩ d2) (.slice (some ⟨g,0,none⟩) ts.length cap) b:=fun b hq=>by
  unfold Off
  rw[hsz]
  exact hq
 refine⟨fun a j=>if a=k then[d0,d1,d2].getD j undef else C a j,?_,fun i hi=>?_⟩
 ·rw[List.length_set,←hset]
  exact o3
 ·rw[List.length_set] at hi
  by_cases e:i=k
  ·subst e
   rw[aHL _ _ _ hk]
   simp only[if_true]
   exact(ht.mono fun b hq=>hbl b (hoff b hq)).sub hmv
  ·rw[aH7 _ _ _ _ e]
   simp only[if_neg e]
   exact((h2 i hi).mono fun b hq=>hbl b (hoff b hq)).sub hmv
theorem aDB.push{w w':World}{B:Nat}{P:Nat→Prop}{ts:List T}{v v':Value}{C:Nat→Nat→Value}(h2:∀i,i<ts.length→TRep w (Off P B w v) (tth ts i) (.agg #[C i 0,C i 1,C i 2]))(hP:∀b,P b→b<w.heap.size)(hPB:∀b,P b→b<B)(t:T)(d0 d1 d2:Value)
  (ht:TRep w (Off P B w v) t (.agg #[d0,d1,d2])) (ho:w'.ownsRow B 52 3 v' (ts.length+1) (aEE C ts.length++[d0,d1,d2])) (hk:∀b,b<w.heap.size→v.ownBlock≠some b→w'.heap[b]?=w.heap[b]?) (hs:w.heap.size≤w'.heap.size) (hv:∀b,v'.ownBlock=some b→v.ownBlock=some b∨w.heap.size≤b) (hvB:∀b,v.ownBlock=some b→B≤b):
  aDB w' B P (ts++[t]) v':=by
 have hin:∀b,Off P B w v b→w'.heap[b]?=w.heap[b]?:=fun b hq=>hq.elim (fun x=>hk b (hP b x) (fun e=>by have:=hvB b e;have:=hPB b x;omega)) fun x=>hk b x.2.1 x.2.2
 have hmv:∀b,Off P B w v b→Off P B w' v' b:=fun b hq=>hq.elim Or.inl fun x=>Or.inr ⟨x.1,by omega,fun e=>(hv b e).elim x.2.2 (by omega)⟩
 refine⟨fun a j=>if a<ts.length then C a j else[d0,d1,d2].getD j undef,?_,fun i hi=>?_⟩
 ·rw[List.length_append,List.length_singleton,←aQH]
  exact ho
 ·have hi':i<ts.length+1:=by simpa using hi
  by_cases e:i<ts.length
  ·rw[aGD _ _ _ e]
   simp only[if_pos e]
   exact((h2 i e).mono hin).sub hmv
  ·have:i=ts.length:=by omega
   subst this
   rw[aEW]
   simp only[if_neg e]
   exact(ht.mono hin).sub hmv
end Go.Proofs.YtokmgbidmnanpaaGreatDoor
namespace Go.Proofs.YtokmgbidmnanpaaGreatDoor
open Go.RowKit Go.Shelf Go.Maps
set_option maxHeartbeats 1600000 in
theorem aN3(d:Nat)(w:World)(rb cb q0:Nat)(a:Option Addr)(c:Nat)(hR:RdOk w rb cb q0)(hq:q0≤100000):
  Calls Tryz.prog 62 #[.pointer (some ⟨rb,0,none⟩),.slice a 0 c] w (aP5 w rb cb q0 d):=by
 have HC:Hid (Calls Tryz.prog 59 #[.slice a 0 c] w fun e w'=>RowA w [] e w'):=aA0 (aJQ 0 [] w (fun _=>False) a c rfl (by simp[aBX]) ⟨by simp,fun _ _=>.bool false,fun hn=>by simp at hn,fun i hi=>by simp at hi⟩ (fun b hb=>hb.elim))
 have hrl:=hR.lt
 have HR:=aA0 hR
 clear hR
 go_enter Tryz.func62,Tryz.ntmps62
 go_upto_region 3 with(
  go_at_call 59
  refine HC.out.mono ?_
  rintro e w1 ⟨es,v,rfl,hm,hr,-,hn,-,b1⟩
  obtain rfl:es=[]:=by simpa using hm
  obtain⟨g,cap,rfl⟩:=hr.form hn
  simp only[List.length_nil])
 have HR1:=aA0 (HR.out.only (Only.of_below (fun _=>False) b1) id id)
 have hz1:=b1.size
 have HOF:Hid (Calls Tryz.prog 57 #[.pointer (some ⟨rb,0,none⟩),.slice (some ⟨w1.heap.size,0,none⟩) 4 4] (w1.alloc (.cells #[.string ⟨#[117,115,101,114,115]⟩,.string ⟨#[120]⟩,.string ⟨#[65]⟩,.string ⟨#[]⟩] 9)) fun e w'=>∃s:ByteArray,e=.returned (.string s)∧s.size≤12∧RdOk w' rb cb (q0+1)∧Only (·=rb) (w1.alloc (.cells #[.string ⟨#[117,115,101,114,115]⟩,.string ⟨#[120]⟩,.string ⟨#[65]⟩,.string ⟨#[]⟩] 9)) w'):=aA0 (of_block _ rb cb q0 w1.heap.size (HR1.out.only (Only.of_below (fun _=>False) (aA2 _ _)) id id) hq [⟨#[117,115,101,114,115]⟩,⟨#[120]⟩,⟨#[65]⟩,⟨#[]⟩] (by simp) (by simp) (by intro s hs;simp at hs;rcases hs with rfl| rfl| rfl| rfl<;>decide) (aA3 _ _ rfl) (by omega))
 go_wp2_with (
  go_at_call 57
  refine HOF.out.mono ?_
  rintro e w2 ⟨s,rfl,hs,r2,o2⟩)
 go_ret
 have bA:=aA2 w1 (.cells #[.string ⟨#[117,115,101,114,115]⟩,.string ⟨#[120]⟩,.string ⟨#[65]⟩,.string ⟨#[]⟩] 9)
 have bB:=aA2 w2 (.cells #[.string ⟨#[]⟩,.string s,.bool false,.int .i64 0,.slice none 0 0] 56)
 have o3:Only (·=rb) w w2:=((Only.of_below (·=rb) b1).trans (Only.of_below (·=rb) bA) fun _ _ q=>q).trans o2 fun _ _ q=>q
 exact⟨[⟨⟨#[]⟩,s,false,0,[]⟩],some ⟨w2.heap.size,0,none⟩,_,q0+1,rfl,SA.one o3.size (aA3 _ _ rfl) (by omega),r2.only (Only.of_below (fun _=>False) bB) id id,⟨by omega,by simp⟩,o3.trans (Only.of_below (·=rb) bB) (fun _ _ q=>q),by simp,fun x hx=>by
  rw[List.mem_singleton.1 hx]
  exact⟨by show(⟨#[]⟩:ByteArray).size≤_;decide,by show s.size≤_;omega,Tr.nil 4 d⟩⟩
set_option maxRecDepth 20000 in
set_option maxHeartbeats 3200000 in
theorem aIA:∀(d:Nat),d≤6→∀(ks:List Se) (w:World) (rb cb q0:Nat) (P:Nat→Prop) (a:Option Addr) (c:Nat),RdOk w rb cb q0→q0+3*(d+1)≤100000→Tr 3 d ks→aAA w P ks a→(∀b,P b→b<w.heap.size∧b≠rb)→
  Calls Tryz.prog 62 #[.pointer (some ⟨rb,0,none⟩),.slice a ks.length c] w (aP5 w rb cb q0 d):=by
 intro d
 induction d with
 |zero=>
  intro hd ks w rb cb q0 P a c hR hq hT hS hP
  have e:ks=[]:=hT
  subst e
  exact aN3 0 w rb cb q0 a c hR (by omega)
 |succ d IH=>
  intro hd ks w rb cb q0 P a c hR hq hT hS hP
  by_cases hk0:ks.length=0
  ·obtain rfl:=List.length_eq_zero_iff.1 hk0
   exact aN3 (d+1) w rb cb q0 a c hR (by omega)
  have hcn:aBX (d+1) ks ks.length≤1000000:=by
   have h1:=hT.cnt (d+1)
   have h2:=aP7 3 hd
   have h3:trN 3 6=1092:=by decide
   omega
  have HC:=aA0 (aJQ (d+1) ks w P a c hT.fit hcn hS (fun b hb=>(hP b hb).1))
  have HT:=aA0 hT
  have HR:=aA0 hR
  have hl3:=hT.1
  have HIH:Hid _:=aA0 (IH (by omega))
  clear IH hS hP hcn hR hT
  go_enter Tryz.func62,Tryz.ntmps62
  go_upto_if 11 with(
   go_at_call 59
   refine HC.out.mono ?_
   rintro e w1 h1
   obtain⟨es,g,cap,rfl,hel,hX,hKT⟩:=h1.start HR.out HT.out
   have hle:es.length≤3:=by omega
   have hl0:¬(es.length:Int)=0:=by omega
   have hlp:0<es.length:=by omega
   clear hel)
  have HX:=aA0 hX
  have HKT:=aA0 hKT
  clear hX hKT HC hk0
  have HPK:=aA0 (aBA w1 rb cb q0 es.length HX.out.rd (by omega) (by omega) (by omega))
  go_upto_region 5 with(
   go_at_call 56
   refine HPK.out.mono ?_
   rintro e w2 ⟨k,rfl,hk,r2,o2,z2⟩)
  have HX2:=aA0 (HX.out.move r2 o2)
  clear HPK r2 o2 HX z2
  have hk':k<es.length:=by omega
  have HPK7:=aA0 (aBA w2 rb cb (q0+1) 7 HX2.out.rd (by omega) (by omega) (by omega))
  go_upto_region 7 with(
   go_at_call 56
   refine HPK7.out.mono ?_
   rintro e w3 ⟨y,rfl,hy,r3,o3,z3⟩)
  have HX3:=aA0 (HX2.out.move r3 o3)
  clear HPK7 r3 o3 HX2 z3
  have hki:(k:Int)<(es.length:Int):=by omega
  have hk0i:¬(k:Int)<0:=by omega
  have hyc:y=0∨y=1∨y=2∨y=3∨y=4∨y=5∨y=6:=by omega
  clear hy hk
  obtain⟨x,hx⟩:∃x,x=es[k]:=⟨_,rfl⟩
  have HXE:=aA0 hx
  clear hx
  have HCL:Hid (∀W q,XS w rb cb (d+1) q es g cap W→aHP W g (k*5) x.s x.ka x.kc∧∀j,W.frozen? ⟨g,j,none⟩=false):=aA0 fun W q h=>by
   obtain⟨h1,-,-,h4⟩:=h.cells k hk'
   rw[←HXE.out] at h1
   exact⟨h1,h4⟩
  have HKD:Hid (∀W q,XS w rb cb (d+1) q es g cap W→aAA W x.Q x.s.kids x.ka∧(∀b,x.Q b→b<W.heap.size∧b≠g∧w.heap.size≤b∧aBK W b)∧x.s.al.size≤1048576∧x.s.name.size≤1048576∧Tr 4 (d+1) x.s.kids):=aA0 fun W q h=>by
   have h1:=h.kid k hk'
   rw[←HXE.out] at h1
   exact h1
  have HEND:Hid (∀W q j v (e':El),XS w rb cb (d+1) q es g cap W→q≤q0+3*(d+1+1)→j<5→e'.cells=x.cells.set j v→aAA W e'.Q e'.s.kids e'.ka→(∀b,e'.Q b→b<W.heap.size∧b≠g∧w.heap.size≤b∧aBK W b)→(e'.s.al.size≤1048576∧e'.s.name.size≤1048576∧Tr 4 (d+1) e'.s.kids)→aP5 w rb cb q0 (d+1) (.returned (.slice (some ⟨g,0,none⟩) es.length cap)) (W.setCell ⟨g,k*5+j,none⟩ v)):=aA0 fun W q j v e' h hq2 hj he hO hQ hs=>by
   rw[HXE.out] at he
   have h2:=(h.put k hk' j hj v e' he hO hQ hs).fin (q0:=q0) (by simp;omega) hq2
   simpa using h2
  rcases hyc with rfl| rfl| rfl| rfl| rfl| rfl| rfl
  ·-- another name
   have HOF:Hid (Calls Tryz.prog 57 #[.pointer (some ⟨rb,0,none⟩),.slice (some ⟨w3.heap.size,0,none⟩) 5 5] (w3.alloc (.cells #[.string ⟨#[110,97,109,101]⟩,.string ⟨#[122,122]⟩,.string ⟨#[102,97,114]⟩,.string ⟨#[95,105,100]⟩,.string ⟨#[]⟩] 9)) fun e w'=>∃s:ByteArray,e=.returned (.string s)∧s.size≤12∧RdOk w' rb cb (q0+1+1+1)∧Only (·=rb) (w3.alloc (.cells #[.string ⟨#[110,97,109,101]⟩,.string ⟨#[122,122]⟩,.string ⟨#[102,97,114]⟩,.string ⟨#[95,105,100]⟩,.string ⟨#[]⟩] 9)) w'):=aA0 (of_block _ rb cb (q0+1+1) w3.heap.size (HX3.out.rd.only (Only.of_below (fun _=>False) (aA2 _ _)) id id) (by omega) [⟨#[110,97,109,101]⟩,⟨#[122,122]⟩,⟨#[102,97,114]⟩,⟨#[95,105,100]⟩,⟨#[]⟩] (by simp) (by simp) (by intro s hs;simp at hs;rcases hs with rfl| rfl| rfl| rfl| rfl<;>decide) (aA3 _ _ rfl) (by have:=HX3.out.rd.lt.1;omega))
   have HX4:=aA0 (HX3.out.below (aA2 w3 (.cells #[.string ⟨#[110,97,109,101]⟩,.string ⟨#[122,122]⟩,.string ⟨#[102,97,114]⟩,.string ⟨#[95,105,100]⟩,.string ⟨#[]⟩] 9)))
   go_wp2_with (
    go_at_call 57
    refine HOF.out.mono ?_
    rintro e w4 ⟨s,rfl,hs,r4,o4⟩
    have HX5:=aA0 (HX4.out.move r4 o4)
    obtain⟨⟨-,c1,-,-,-⟩,hfz⟩:=HCL.out w4 _ HX5.out
    have f1:=hfz (k*5+1))
   go_ret
   obtain⟨hO,hQ,hz1,hz2,hz3⟩:=HKD.out w4 _ HX5.out
   exact HEND.out w4 _ 1 (.string s) ⟨.mk x.s.al s x.s.one x.s.id x.s.kids,x.ka,x.kc,x.Q⟩ HX5.out (by omega) (by omega) rfl hO hQ ⟨hz1,by show s.size≤_;omega,hz3⟩
  ·-- another answer's name
   obtain⟨hO,hQ,hz1,hz2,hz3⟩:=HKD.out w3 _ HX3.out
   obtain⟨⟨-,n1,-,-,-⟩,-⟩:=HCL.out w3 _ HX3.out
   have HOF:Hid (Calls Tryz.prog 57 #[.pointer (some ⟨rb,0,none⟩),.slice (some ⟨w3.heap.size,0,none⟩) 3 3] (w3.alloc (.cells #[.string ⟨#[97]⟩,.string ⟨#[95,97]⟩,.string x.s.name] 9)) fun e w'=>∃s:ByteArray,e=.returned (.string s)∧s.size≤1048576∧RdOk w' rb cb (q0+1+1+1)∧Only (·=rb) (w3.alloc (.cells #[.string ⟨#[97]⟩,.string ⟨#[95,97]⟩,.string x.s.name] 9)) w'):=aA0 (aR8 _ rb cb (q0+1+1) w3.heap.size 1048576 (by unfold maxLen;omega) (HX3.out.rd.only (Only.of_below (fun _=>False) (aA2 _ _)) id id) (by omega) [⟨#[97]⟩,⟨#[95,97]⟩,x.s.name] (by simp) (by simp) (by intro s hs;simp at hs;rcases hs with rfl| rfl| rfl;(decide);(decide);exact hz2) (aA3 _ _ rfl) (by have:=HX3.out.rd.lt.1;omega))
   clear hO hQ hz1 hz2 hz3
   have HX4:=aA0 (HX3.out.below (aA2 w3 (.cells #[.string ⟨#[97]⟩,.string ⟨#[95,97]⟩,.string x.s.name] 9)))
   go_wp2_with (
    go_at_call 57
    refine HOF.out.mono ?_
    rintro e w4 ⟨s,rfl,hs,r4,o4⟩
    have HX5:=aA0 (HX4.out.move r4 o4)
    obtain⟨⟨c0,-,-,-,-⟩,hfz⟩:=HCL.out w4 _ HX5.out
    have f1:=hfz (k*5))
   go_ret
   obtain⟨hO,hQ,hz1,hz2,hz3⟩:=HKD.out w4 _ HX5.out
   exact HEND.out w4 _ 0 (.string s) ⟨.mk s x.s.name x.s.one x.s.id x.s.kids,x.ka,x.kc,x.Q⟩ HX5.out (by omega) (by omega) rfl hO hQ ⟨hs,hz2,hz3⟩
  ·-- one or many
   obtain⟨⟨-,-,c2,-,-⟩,hfz⟩:=HCL.out w3 _ HX3.out
   have f2:=hfz (k*5+2)
   clear hfz
   go_wp2_with fail
   go_ret
   obtain⟨hO,hQ,hz1,hz2,hz3⟩:=HKD.out w3 _ HX3.out
   exact HEND.out w3 _ 2 _ ⟨.mk x.s.al x.s.name (!x.s.one) x.s.id x.s.kids,x.ka,x.kc,x.Q⟩ HX3.out (by omega) (by omega) rfl hO hQ ⟨hz1,hz2,hz3⟩
  ·-- another id
   have bA:=aA2 w3 (.cells #[.int .i64 (-1),.int .i64 999999,.int .i64 1000000] 3)
   have nA:=aA3 (w:=w3) (N:=w3.heap.size) #[.int .i64 (-1),.int .i64 999999,.int .i64 1000000] 3 rfl
   have HX4:=aA0 (HX3.out.below bA)
   have zA:w3.heap.size<(w3.alloc (.cells #[.int .i64 (-1),.int .i64 999999,.int .i64 1000000] 3)).heap.size:=by simp
   have HIN:Hid (∀W,Only (·=rb) (w3.alloc (.cells #[.int .i64 (-1),.int .i64 999999,.int .i64 1000000] 3)) W→∀y,y<3→∃v:Int,W.cell? ⟨w3.heap.size,y,none⟩=some (.int .i64 v)):=aA0 fun W hW y hy=>by
    have h:=(hW.block w3.heap.size zA (by have:=HX3.out.rd.lt.1;omega)).trans nA
    have hc:y=0∨y=1∨y=2:=by omega
    rcases hc with rfl| rfl| rfl
    ·exact⟨_,(aA1 h 0 (by simp)).1⟩
    ·exact⟨_,(aA1 h 1 (by simp)).1⟩
    ·exact⟨_,(aA1 h 2 (by simp)).1⟩
   have HPK3:=aA0 (aBA _ rb cb (q0+1+1) 3 HX4.out.rd (by omega) (by omega) (by omega))
   clear bA nA zA
   go_wp2_with (
    go_at_call 56
    refine HPK3.out.mono ?_
    rintro e w4 ⟨y,rfl,hy,r4,o4,z4⟩
    have HX5:=aA0 (HX4.out.move r4 o4)
    have hy3:y<3:=by omega
    have hyi:(y:Int)<3:=by omega
    obtain⟨iv,hiv⟩:=HIN.out w4 o4 y hy3
    obtain⟨⟨-,-,-,c3,-⟩,hfz⟩:=HCL.out w4 _ HX5.out
    have f3:=hfz (k*5+3)
    clear hfz z4 r4 o4 hy)
   go_ret
   obtain⟨hO,hQ,hz1,hz2,hz3⟩:=HKD.out w4 _ HX5.out
   exact HEND.out w4 _ 3 (.int .i64 iv) ⟨.mk x.s.al x.s.name x.s.one iv x.s.kids,x.ka,x.kc,x.Q⟩ HX5.out (by omega) (by omega) rfl hO hQ ⟨hz1,hz2,hz3⟩
  ·-- no kids
   have HX4:=aA0 (HX3.out.below (aA2 w3 (.cells #[] 56)))
   obtain⟨⟨-,-,-,-,c4⟩,hfz⟩:=HCL.out _ _ HX4.out
   have f4:=hfz (k*5+4)
   clear hfz
   go_wp2_with fail
   go_ret
   obtain⟨hO,hQ,hz1,hz2,hz3⟩:=HKD.out _ _ HX4.out
   exact HEND.out _ _ 4 _ ⟨.mk x.s.al x.s.name x.s.one x.s.id [],some ⟨w3.heap.size,0,none⟩,0,fun _=>False⟩ HX4.out (by omega) (by omega) rfl ⟨by simp,fun _ _=>.bool false,fun hn=>by simp at hn,fun i hi=>by simp at hi⟩ (fun b hb=>hb.elim) ⟨hz1,hz2,Tr.nil 4 _⟩
  ·-- a field once more
   obtain⟨i0,hi0,hz0,hz1,hz2⟩:=info_parts aL2
   have hrow:=HX3.out.row.row
   obtain⟨⟨c0,c1,c2,c3,c4⟩,-⟩:=HCL.out w3 _ HX3.out
   have hpl:w.heap.size≤w3.heap.size:=HX3.out.only.size
   go_wp2_with (
    at_builtin
    refine wpList_append_own_at _ rfl _ _ 23 rfl w.heap.size 56 i0 aP8 5 72 Tryz.underlying23 hi0 hz0 hz1 hz2 rfl (by decide) _ es.length _ rfl (hrow.alloc _) ⟨w3.heap.size,0,none⟩ 1 1 [.string x.s.al,.string x.s.name,.bool x.s.one,.int .i64 x.s.id,.slice x.ka x.s.kids.length x.kc] rfl rfl (World.news_of_block (heap_alloc_new w3 _)) (by intro u hu;simp at hu;rcases hu with rfl| rfl| rfl| rfl| rfl<;>rfl) (by unfold maxLen;omega) (by omega) (by simp;omega) ?_
    intro v' w7 hown hgrow hnn hob
    refine Hid.out ?_)
   refine aA0 ?_
   have HX4:=aA0 (HX3.out.below (aA2 w3 (.cells #[.string x.s.al,.string x.s.name,.bool x.s.one,.int .i64 x.s.id,.slice x.ka x.s.kids.length x.kc] 56)))
   obtain⟨hO,hQ,hy⟩:=HKD.out _ _ HX4.out
   obtain⟨g7,cap7,rfl,hX7⟩:=HX4.out.push x rfl hown hgrow hob hO hQ hy
   have HFIN:=aA0 (hX7.fin (q0:=q0) (by simp;omega) (by omega))
   rw[List.length_append,List.length_singleton] at HFIN
   clear hown hgrow hnn hob hO hQ hy hX7
   go_wp2_with fail
   go_ret
   exact HFIN.out
  ·-- the kids spoilt
   obtain⟨hO,hQ,hz1,hz2,hz3⟩:=HKD.out w3 _ HX3.out
   have hkt:=HKT.out k hk'
   rw[←HXE.out] at hkt
   have HREC:=aA0 (HIH.out x.s.kids w3 rb cb (q0+1+1) x.Q x.ka x.kc HX3.out.rd (by omega) hkt hO (fun b hb=>⟨(hQ b hb).1,by have:=HX3.out.rlt;have:=(hQ b hb).2.2.1;omega⟩))
   obtain⟨⟨-,-,-,-,c4⟩,-⟩:=HCL.out w3 _ HX3.out
   have HGL:=aA0 ((HX3.out.row.row.lt g rfl).2)
   clear hO hQ hz1 hz2 hz3 hkt
   go_wp2_with (
    go_at_call 62
    refine HREC.out.mono ?_
    rintro e w4 ⟨ks',a',c',q',rfl,hSA,r4,hq4,o4,hT4⟩
    have HX5:=aA0 (HX3.out.move r4 o4)
    have HSA:=aA0 hSA
    obtain⟨⟨-,-,-,-,d4⟩,hfz⟩:=HCL.out w4 _ HX5.out
    have f4:=hfz (k*5+4)
    clear hfz hSA r4 o4)
   go_ret
   obtain⟨hO,hQ,hz1,hz2,hz3⟩:=HKD.out w4 _ HX5.out
   exact HEND.out w4 q' 4 (.slice a' ks'.length c') ⟨.mk x.s.al x.s.name x.s.one x.s.id ks',a',c',fun b=>w3.heap.size≤b∧b<w4.heap.size∧aBK w4 b⟩ HX5.out (by omega) (by omega) rfl HSA.out (fun b hb=>⟨hb.2.1,by have:=HGL.out;omega,by have:=HX3.out.only.size;omega,hb.2.2⟩) ⟨hz1,hz2,hT4⟩
end Go.Proofs.YtokmgbidmnanpaaGreatDoor
