import Derived.Test.YtcebpkeiaiiphaaGreatDoorRC15
import Derived.Test.YtcebpkeiaiiphaaGreatDoorRC13
import Derived.Test.YtcebpkeiaiiphaaGreatDoorRC6
set_option linter.unusedSimpArgs false
set_option linter.unusedVariables false
namespace Go.Proofs.YtcebpkeiaiiphaaGreatDoor
open Go.RowKit Go.Maps
theorem aVS{w0 w:World}{P:Nat->Prop}{base gF capF gD capD:Nat}{fs:List F}{Cf:Nat->Nat->Value}(g:F)
  (hr:∀i,i<fs.length->FRep w0 P (fth fs i) (.agg #[Cf i 0,Cf i 1,Cf i 2,Cf i 3,Cf i 4,Cf i 5,Cf i 6,Cf i 7])) (hk:∀b,P b->w.heap[b]?=w0.heap[b]?)
  (h:w.ownsRow base 80 8 (.slice (some ⟨gF,0,none⟩) (fs.length+1) capF) (fs.length+1) (aCL Cf fs.length++[.string g.name,.string g.of,.bool g.list,.bool g.must,.bool g.far,.bool g.hidden,.bool g.shared,.slice (some ⟨gD,0,none⟩) g.needs.length capD]))
  (hd:w.ownsRow base 9 1 (.slice (some ⟨gD,0,none⟩) g.needs.length capD) g.needs.length (g.needs.map Value.string))
  (hcd:g.needs.length<=capD) (hs:∀i,(nth g.needs i).size<=maxLen) (hl:g.needs.length<=1000000000) (hl2:fs.length<=1000000000) (h1:g.name.size<=maxLen) (h2:g.of.size<=maxLen):
  aBJ w (fun b=>P b∨(base<=b∧b<w.heap.size)) (fs++[g]) (some ⟨gF,0,none⟩):=by
 have hD:=aGG (n:=0) hd hs (by unfold maxLen;omega)
 refine⟨by simp;omega,fun i j=>if i<fs.length then Cf i j else([.string g.name,.string g.of,.bool g.list,.bool g.must,.bool g.far,.bool g.hidden,.bool g.shared,.slice (some ⟨gD,0,none⟩) g.needs.length capD]:List Value).getD j undef,fun _=>⟨gF,0,rfl,Or.inr (h.lt gF rfl),fun i hi j hj=>?_⟩,fun i hi=>?_⟩
 ·have hi':i<fs.length+1:=by simpa using hi
  rw[Nat.zero_add,h.cellAt (i*8+j) (by omega)]
  show _=some (if i<fs.length then Cf i j else _)
  by_cases hlt:i<fs.length
  ·rw[if_pos hlt,List.getElem?_append_left (by rw[aDE];omega),aLK _ _ _ _ hlt hj]
  ·have:i=fs.length:=by omega
   subst this;rw[if_neg hlt,List.getElem?_append_right (by rw[aDE];omega),aDE,Nat.add_sub_cancel_left]
   rcases j with _| _| _| _| _| _| _| _| j
   all_goals first| rfl| omega
 ·have hi':i<fs.length+1:=by simpa using hi
  by_cases hlt:i<fs.length
  ·simp only[if_pos hlt];rw[aGI _ _ _ hlt];exact((hr i hlt).mono hk).sub fun b hb=>Or.inl hb
  ·have:i=fs.length:=by omega
   subst this;simp only[if_neg hlt];rw[aGE];exact⟨_,capD,rfl,hD.sub fun b hb=>Or.inr hb,hcd,h1,h2,by omega⟩
theorem aB7{B N:Nat}{a w:World}(h:Below B a w)(hN:B<=N)(v0 v1 v2:Value):
  Below B a (((w.setCell ⟨N,0,none⟩ v0).setCell ⟨N,1,none⟩ v1).setCell ⟨N,2,none⟩ v2):=
 aC5 hN [v0,v1,v2] w 0 h
theorem aD0{N b:Nat}(h:b≠N)(w:World)(v0 v1 v2:Value):
  (((w.setCell ⟨N,0,none⟩ v0).setCell ⟨N,1,none⟩ v1).setCell ⟨N,2,none⟩ v2).heap[b]?=w.heap[b]?:=
 aC6 N b h [v0,v1,v2] w 0
theorem aFW{N:Nat}(w:World)(v0 v1 v2:Value):
  (((w.setCell ⟨N,0,none⟩ v0).setCell ⟨N,1,none⟩ v1).setCell ⟨N,2,none⟩ v2).heap.size=w.heap.size:=
 aCC N [v0,v1,v2] w 0
theorem aDX{w:World}{N:Nat}{c:Array Value}{T:TypeId}(hb:w.heap[N]?=some (.cells c T (0,0)))(hc:c.size=3)(v0 v1 v2:Value):
  (((w.setCell ⟨N,0,none⟩ v0).setCell ⟨N,1,none⟩ v1).setCell ⟨N,2,none⟩ v2).cell? ⟨N,0,none⟩=some v0∧(((w.setCell ⟨N,0,none⟩ v0).setCell ⟨N,1,none⟩ v1).setCell ⟨N,2,none⟩ v2).cell? ⟨N,1,none⟩=some v1∧(((w.setCell ⟨N,0,none⟩ v0).setCell ⟨N,1,none⟩ v1).setCell ⟨N,2,none⟩ v2).cell? ⟨N,2,none⟩=some v2:=by
 have hrow:w.rowIs N T 3 (fun i=>c[i]?.getD undef):=⟨c,hb,hc,fun i hi=>by simp[show i<c.size by omega]⟩
 obtain⟨G',hG2,hG1,-⟩:=aFP [v0,v1,v2] 0 hrow;have g:∀j,j<3->(((w.setCell ⟨N,0,none⟩ v0).setCell ⟨N,1,none⟩ v1).setCell ⟨N,2,none⟩ v2).cell? ⟨N,j,none⟩=some ([v0,v1,v2].getD j undef):=fun j hj=>by
  have:=hG1 j hj;rw[Nat.zero_add] at this;exact(hG2.cell hj).trans (congrArg some this)
 exact⟨g 0 (by omega),g 1 (by omega),g 2 (by omega)⟩
theorem aEQ(FW:World)(tmps:Array Value)(N:Nat)(v0 v1 v2:Value)(h4:tmps.getD 4 undef=.pointer (some ⟨N,0,none⟩))
  (d0:FW.cell? ⟨N,0,none⟩=some v0) (d1:FW.cell? ⟨N,1,none⟩=some v1) (d2:FW.cell? ⟨N,2,none⟩=some v2):
  (results Tryz.f71 tmps).run Tryz.prog FW=.ok (.agg #[v0,v1,v2]) FW:=by
 simp only[Array.getD_eq_getD_getElem?] at h4;simp[results,Tryz.results71,go_sem,h4,d0,d1,d2]
theorem aV1{t:T}{f:F}{v:Value}{na:Option Addr}{nc:Nat}{w wS:World}{P Q:Nat->Prop}{Cf:Nat->Nat->Value}{base gF capF gD capD N:Nat}(hT:TRep w P t v)(hF:FRep w Q f (fval f na nc))(hP:∀b,P b->b<w.heap.size)(hl:t.fields.length<=1000000000)(hl2:f.needs.length<=1000000000)(hx:aAB t f.name=-1)
  (hr:∀i,i<t.fields.length->FRep w P (fth t.fields i) (.agg #[Cf i 0,Cf i 1,Cf i 2,Cf i 3,Cf i 4,Cf i 5,Cf i 6,Cf i 7])) (hb:w.heap.size<=base) (hN:N<base) (hN2:w.heap.size<=N)
  (hO:wS.ownsRow base 80 8 (.slice (some ⟨gF,0,none⟩) (t.fields.length+1) capF) (t.fields.length+1) (aCL Cf t.fields.length++[.string f.name,.string f.of,.bool f.list,.bool f.must,.bool false,.bool f.hidden,.bool false,.slice (some ⟨gD,0,none⟩) f.needs.length capD])∧wS.ownsRow base 9 1 (.slice (some ⟨gD,0,none⟩) f.needs.length capD) f.needs.length (f.needs.map Value.string))
  (hcf:t.fields.length+1<=capF) (hcd:f.needs.length<=capD) (bS:Below w.heap.size w wS) (v0 v1 v2:Value) (W:World) (hW:W=(((wS.setCell ⟨N,0,none⟩ v0).setCell ⟨N,1,none⟩ v1).setCell ⟨N,2,none⟩ v2)):
  ∃fa' fc',(.returned (.agg #[.string t.name,.string t.key,.slice (some ⟨gF,0,none⟩) (t.fields.length+1) capF]):Ending)=.returned (.agg #[.string t.name,.string t.key,.slice fa' (putF t f).fields.length fc'])∧TRep W (fun b=>P b∨Q b∨(w.heap.size<=b∧b<W.heap.size)) (putF t f) (.agg #[.string t.name,.string t.key,.slice fa' (putF t f).fields.length fc'])∧Below w.heap.size w W:=by
 have hp:putF t f={ t with fields:=t.fields++[⟨f.name,f.of,f.list,f.must,false,f.hidden,false,f.needs⟩] }:=by rw[putF,if_neg (by rw[hx];omega)]
 have hln:(putF t f).fields.length=t.fields.length+1:=by rw[hp];simp
 have hbl:∀b,b≠N->W.heap[b]?=wS.heap[b]?:=fun b hb=>by rw[hW];exact aD0 hb _ _ _ _
 have hsz:W.heap.size=wS.heap.size:=by rw[hW];exact aFW _ _ _ _
 have hbW:Below w.heap.size w W:=by rw[hW];exact aB7 bS hN2 _ _ _
 have oF:=aB9 (w':=W) hO.1 fun j hj=>by cases hj;exact hbl gF (by have:=(hO.1.lt gF rfl).1;omega)
 have oD:=aB9 (w':=W) hO.2 fun j hj=>by cases hj;exact hbl gD (by have:=(hO.2.lt gD rfl).1;omega)
 obtain⟨fa0,fc0,-,-,-,ht1,ht2⟩:=hT;obtain⟨na',nc',-,hs,-,hf1,hf2,-⟩:=hF;have hR:=aVS (w0:=w) (w:=W) (P:=P) (⟨f.name,f.of,f.list,f.must,false,f.hidden,false,f.needs⟩:F) hr (fun b hb=>hbW.block b (hP b hb)) oF oD hcd hs.2.1 hl2 hl hf1 hf2;refine⟨some ⟨gF,0,none⟩,capF,by rw[hln],⟨some ⟨gF,0,none⟩,capF,?_,?_,by rw[hln];exact hcf,?_,?_⟩,hbW⟩
 ·rw[hp]
 ·rw[hp];exact hR.sub fun b hb=>hb.elim Or.inl fun h=>Or.inr (Or.inr ⟨by omega,h.2⟩)
 ·rw[hp];exact ht1
 ·rw[hp];exact ht2
theorem aUW:(Tryz.prog.info? 80).map (fun i=>(i.zero.map fun z=>z.cells.size,i.size,i.bytes))=some (some 8,8,64):=by kernel_rfl
theorem aDZ:∃(i:TypeInfo) (z:Value),Tryz.prog.info? 80=some i∧i.zero=some z∧i.size=8∧i.bytes=64∧z.cells.size=8:=by
 have h:=aUW;cases hi:Tryz.prog.info? 80 with
 |none=>rw[hi] at h;cases h
 |some i=>
  rw[hi] at h;simp only[Option.map_some,Option.some.injEq,Prod.mk.injEq] at h;obtain⟨h1,h2,h3⟩:=h;cases hz:i.zero with
  |none=>rw[hz] at h1;cases h1
  |some z=>
   rw[hz] at h1;simp only[Option.map_some,Option.some.injEq] at h1;exact⟨i,z,rfl,hz,h2,h3,h1⟩
def Off(P:Nat->Prop)(B:Nat)(w:World)(v:Value)(b:Nat):Prop:=P b∨(B<=b∧b<w.heap.size∧v.ownBlock≠some b)
def aCK(w:World)(B:Nat)(P:Nat->Prop)(ts:List T)(v:Value):Prop:=∃C:Nat->Nat->Value,w.ownsRow B 96 3 v ts.length (aDG C ts.length)∧∀i,i<ts.length->TRep w (Off P B w v) (tth ts i) (.agg #[C i 0,C i 1,C i 2])
theorem aCK.nil(w:World)(B:Nat)(P:Nat->Prop):aCK w B P [] (.slice none 0 0):=⟨fun _ _=>undef,World.ownsRow_nil _ _ _ _,fun i hi=>absurd hi (Nat.not_lt_zero _)⟩
theorem aCK.keep{w w':World}{B:Nat}{P:Nat->Prop}{ts:List T}{v:Value}(h:aCK w B P ts v)(hP:∀b,P b->b<w.heap.size)(hb:Below w.heap.size w w'):aCK w' B P ts v:=by
 obtain⟨C,h1,h2⟩:=h;refine⟨C,aAE h1 hb,fun i hi=>((h2 i hi).mono fun b hq=>hb.block b ?_).sub fun b hq=>?_⟩
 ·exact hq.elim (hP b) fun x=>x.2.1
 ·exact hq.elim Or.inl fun x=>Or.inr ⟨x.1,Nat.lt_of_lt_of_le x.2.1 hb.size,x.2.2⟩
theorem aCK.put{w:World}{B g n cap k:Nat}{P:Nat->Prop}{ts:List T}(h:aCK w B P ts (.slice (some ⟨g,0,none⟩) n cap))(hn:n=ts.length)(hk:k<ts.length)(hP:∀b,P b->b<B)(t:T)(d0 d1 d2:Value)(ht:TRep w (Off P B w (.slice (some ⟨g,0,none⟩) n cap)) t (.agg #[d0,d1,d2])):
  aCK (((w.setCell ⟨g,k*3,none⟩ d0).setCell ⟨g,k*3+1,none⟩ d1).setCell ⟨g,k*3+2,none⟩ d2) B P (ts.set k t) (.slice (some ⟨g,0,none⟩) n cap):=by
 subst hn;obtain⟨C,h1,h2⟩:=h;have hg:=(h1.lt g rfl).1;have hset:=aS3 C ts.length k hk (fun j=>[d0,d1,d2].getD j undef);have o1:=(h1.stored (k*3) d0).1;have o2:=(o1.stored (k*3+1) d1).1;have o3:=(o2.stored (k*3+2) d2).1;have hbl:∀b,b≠g->(((w.setCell ⟨g,k*3,none⟩ d0).setCell ⟨g,k*3+1,none⟩ d1).setCell ⟨g,k*3+2,none⟩ d2).heap[b]?=w.heap[b]?:=fun b hb=>((Below.heap_setCell _ _ _ _ hb).trans (Below.heap_setCell _ _ _ _ hb)).trans (Below.heap_setCell _ _ _ _ hb);have hsz:(((w.setCell ⟨g,k*3,none⟩ d0).setCell ⟨g,k*3+1,none⟩ d1).setCell ⟨g,k*3+2,none⟩ d2).heap.size=w.heap.size:=by simp
 have hoff:∀b,Off P B w (.slice (some ⟨g,0,none⟩) ts.length cap) b->b≠g:=fun b hq e=>hq.elim (fun x=>by have:=hP b x;omega) fun x=>x.2.2 (by rw[e];rfl)
 have hmv:∀b,Off P B w (.slice (some ⟨g,0,none⟩) ts.length cap) b->Off P B (((w.setCell ⟨g,k*3,none⟩ d0).setCell ⟨g,k*3+1,none⟩ d1).setCell ⟨g,k*3+2,none⟩ d2) (.slice (some ⟨g,0,none⟩) ts.length cap) b:=fun b hq=>by
  unfold Off;rw[hsz];exact hq
 refine⟨fun a j=>if a=k then[d0,d1,d2].getD j undef else C a j,?_,fun i hi=>?_⟩
 ·rw[List.length_set,<-hset];exact o3
 ·rw[List.length_set] at hi;by_cases e:i=k
  ·subst e;rw[aHO _ _ _ hk];simp only[if_true];exact(ht.mono fun b hq=>hbl b (hoff b hq)).sub hmv
  ·rw[aFX _ _ _ _ e];simp only[if_neg e];exact((h2 i hi).mono fun b hq=>hbl b (hoff b hq)).sub hmv
theorem aCK.push{w w':World}{B:Nat}{P:Nat->Prop}{ts:List T}{v v':Value}{C:Nat->Nat->Value}(h2:∀i,i<ts.length->TRep w (Off P B w v) (tth ts i) (.agg #[C i 0,C i 1,C i 2]))(hP:∀b,P b->b<w.heap.size)(hPB:∀b,P b->b<B)(t:T)(d0 d1 d2:Value)
  (ht:TRep w (Off P B w v) t (.agg #[d0,d1,d2])) (ho:w'.ownsRow B 96 3 v' (ts.length+1) (aDG C ts.length++[d0,d1,d2])) (hk:∀b,b<w.heap.size->v.ownBlock≠some b->w'.heap[b]?=w.heap[b]?) (hs:w.heap.size<=w'.heap.size) (hv:∀b,v'.ownBlock=some b->v.ownBlock=some b∨w.heap.size<=b) (hvB:∀b,v.ownBlock=some b->B<=b):
  aCK w' B P (ts++[t]) v':=by
 have hin:∀b,Off P B w v b->w'.heap[b]?=w.heap[b]?:=fun b hq=>hq.elim (fun x=>hk b (hP b x) (fun e=>by have:=hvB b e;have:=hPB b x;omega)) fun x=>hk b x.2.1 x.2.2
 have hmv:∀b,Off P B w v b->Off P B w' v' b:=fun b hq=>hq.elim Or.inl fun x=>Or.inr ⟨x.1,by omega,fun e=>(hv b e).elim x.2.2 (by omega)⟩
 refine⟨fun a j=>if a<ts.length then C a j else[d0,d1,d2].getD j undef,?_,fun i hi=>?_⟩
 ·rw[List.length_append,List.length_singleton,<-aQH];exact ho
 ·have hi':i<ts.length+1:=by simpa using hi
  by_cases e:i<ts.length
  ·rw[aEX _ _ _ e];simp only[if_pos e];exact((h2 i e).mono hin).sub hmv
  ·have:i=ts.length:=by omega
   subst this;rw[aDR];simp only[if_neg e];exact(ht.mono hin).sub hmv
def aED(h:Bool)(k:Nat)(L:List Value):List Value:=if h=true then L.set (k*8+5) (.bool true) else L
def aHU(o:Option Value)(k:Nat)(L:List Value):List Value:=match o with| none=>L| some v=>L.set (k*8+7) v
theorem aQ4(h:Bool)(k:Nat)(L:List Value):(aED h k L).length=L.length:=by unfold aED;split<;>simp
def aLN(h:Bool)(o:Option Value)(c:Nat->Value)(j:Nat):Value:=if j=5∧h=true then .bool true else if j=7 then o.getD (c 7) else c j
theorem aLB(h:Bool)(o:Option Value)(k n:Nat)(C:Nat->Nat->Value)(i j:Nat)(hi:i<n)(hj:j<8):
  (aHU o k (aED h k (aCL C n)))[i*8+j]?=some (if i=k then aLN h o (C k) j else C i j):=by
 have hf:=aLK C n i j hi hj;have hH:(aED h k (aCL C n))[i*8+j]?=some (if i=k∧j=5∧h=true then .bool true else C i j):=by
  unfold aED;by_cases hh:h=true
  ·rw[if_pos hh];by_cases e:i=k∧j=5
   ·obtain⟨rfl,rfl⟩:=e;rw[List.getElem?_set_self (by rw[aDE];omega),if_pos ⟨rfl,rfl,hh⟩]
   ·rw[List.getElem?_set_ne (by omega),hf,if_neg (fun x=>e ⟨x.1,x.2.1⟩)]
  ·rw[if_neg hh,hf,if_neg (fun x=>hh x.2.2)]
 cases o with
 |none=>
  show(aED h k (aCL C n))[i*8+j]?=_;rw[hH];by_cases e:i=k
  ·subst e;simp only[true_and,if_true,aLN,Option.getD_none];by_cases e2:j=5∧h=true
   ·rw[if_pos e2,if_pos e2]
   ·rw[if_neg e2,if_neg e2];by_cases e3:j=7
    ·rw[if_pos e3,e3]
    ·rw[if_neg e3]
  ·rw[if_neg (fun x=>e x.1),if_neg e]
 |some v=>
  show((aED h k (aCL C n)).set (k*8+7) v)[i*8+j]?=_;by_cases e:i=k∧j=7
  ·obtain⟨rfl,rfl⟩:=e;rw[List.getElem?_set_self (by rw[aQ4,aDE];omega)]
   simp[aLN]
  ·rw[List.getElem?_set_ne (by omega),hH]
   by_cases e1:i=k
   ·subst e1;have e3:j≠7:=fun x=>e ⟨rfl,x⟩;simp only[true_and,if_true,aLN];by_cases e2:j=5∧h=true
    ·rw[if_pos e2,if_pos e2]
    ·rw[if_neg e2,if_neg e2,if_neg e3]
   ·rw[if_neg (fun x=>e1 x.1),if_neg e1]
theorem aKQ(fs:List F)(g:F)(k i:Nat)(h:i≠k):fth (fs.set k g) i=fth fs i:=by
 simp[fth,List.getD_eq_getElem?_getD,List.getElem?_set_ne (Ne.symm h)]
theorem aKN(fs:List F)(g:F)(k:Nat)(h:k<fs.length):fth (fs.set k g) k=g:=by
 simp[fth,List.getD_eq_getElem?_getD,List.getElem?_set_self h]
def oldF(t:T)(f:F)(k:Nat):F:={ (fth t.fields k) with hidden:=(fth t.fields k).hidden||f.hidden,needs:=if f.needs.length=0 then(fth t.fields k).needs else f.needs }
theorem aL2{t:T}{f:F}{v:Value}{na:Option Addr}{nc:Nat}{w wS:World}{P Q:Nat->Prop}{Cf:Nat->Nat->Value}{base gB capB N k:Nat}{o:Option Value}(hT:TRep w P t v)(hF:FRep w Q f (fval f na nc))(hP:∀b,P b->b<w.heap.size)(hl:t.fields.length<=1000000000)(hl2:f.needs.length<=1000000000)(hx:aAB t f.name=(k:Int))(hk:k<t.fields.length)
  (hr:∀i,i<t.fields.length->FRep w P (fth t.fields i) (.agg #[Cf i 0,Cf i 1,Cf i 2,Cf i 3,Cf i 4,Cf i 5,Cf i 6,Cf i 7])) (hb:w.heap.size<=base) (hN:N<base) (hN2:w.heap.size<=N)
  (hO:wS.ownsRow base 80 8 (.slice (some ⟨gB,0,none⟩) t.fields.length capB) t.fields.length (aHU o k (aED f.hidden k (aCL Cf t.fields.length))))
  (ho:(f.needs.length=0∧o=none)∨(f.needs.length≠0∧∃gD capD,o=some (.slice (some ⟨gD,0,none⟩) f.needs.length capD)∧f.needs.length<=capD∧wS.ownsRow base 9 1 (.slice (some ⟨gD,0,none⟩) f.needs.length capD) f.needs.length (f.needs.map Value.string)))
  (hcf:t.fields.length<=capB) (bS:Below w.heap.size w wS) (v0 v1 v2:Value) (W:World) (hW:W=(((wS.setCell ⟨N,0,none⟩ v0).setCell ⟨N,1,none⟩ v1).setCell ⟨N,2,none⟩ v2)):
  ∃fa' fc',(.returned (.agg #[.string t.name,.string t.key,.slice (some ⟨gB,0,none⟩) t.fields.length capB]):Ending)=.returned (.agg #[.string t.name,.string t.key,.slice fa' (putF t f).fields.length fc'])∧TRep W (fun b=>P b∨Q b∨(w.heap.size<=b∧b<W.heap.size)) (putF t f) (.agg #[.string t.name,.string t.key,.slice fa' (putF t f).fields.length fc'])∧Below w.heap.size w W:=by
 have hp:putF t f={ t with fields:=t.fields.set k (oldF t f k) }:=by
  rw[putF,if_pos (by rw[hx];omega),hx]
  rfl
 have hln:(putF t f).fields.length=t.fields.length:=by rw[hp];simp
 have hbl:∀b,b≠N->W.heap[b]?=wS.heap[b]?:=fun b hb=>by rw[hW];exact aD0 hb _ _ _ _
 have hsz:W.heap.size=wS.heap.size:=by rw[hW];exact aFW _ _ _ _
 have hbW:Below w.heap.size w W:=by rw[hW];exact aB7 bS hN2 _ _ _
 have oF:=aB9 (w':=W) hO fun j hj=>by cases hj;exact hbl gB (by have:=(hO.lt gB rfl).1;omega)
 obtain⟨fa0,fc0,-,-,-,ht1,ht2⟩:=hT;obtain⟨na',nc',-,hs,-,hf1,hf2,-⟩:=hF;have hR:aBJ W (fun b=>P b∨Q b∨(w.heap.size<=b∧b<W.heap.size)) (t.fields.set k (oldF t f k)) (some ⟨gB,0,none⟩):=by
  refine⟨by simp;omega,fun i j=>if i=k then aLN f.hidden o (Cf k) j else Cf i j,fun _=>⟨gB,0,rfl,Or.inr (Or.inr ⟨by have:=(oF.lt gB rfl).1;omega,(oF.lt gB rfl).2⟩),fun i hi j hj=>?_⟩,fun i hi=>?_⟩
  ·have hi':i<t.fields.length:=by simpa using hi
   rw[Nat.zero_add,oF.cellAt (i*8+j) (by omega)]
   exact aLB f.hidden o k t.fields.length Cf i j hi' hj
  ·have hi':i<t.fields.length:=by simpa using hi
   by_cases e:i=k
   ·subst e;rw[aKN _ _ _ hk];simp only[if_true];obtain⟨na0,nc0,e0,hs0,hc0,hz1,hz2,hz3⟩:=hr i hk;simp only[Value.agg.injEq,Array.mk.injEq,List.cons.injEq,and_true] at e0;obtain⟨c0,c1,c2,c3,c4,c5,c6,c7⟩:=e0;have h5:aLN f.hidden o (Cf i) 5=.bool ((fth t.fields i).hidden||f.hidden):=by
     cases hh:f.hidden<;>simp[aLN,c5]
    rcases ho with⟨hn,rfl⟩| ⟨hn,gD,capD,rfl,hcd,hoD⟩
    ·refine⟨na0,nc0,?_,?_,?_,hz1,hz2,?_⟩
     ·rw[h5];simp[aLN,c0,c1,c2,c3,c4,c6,c7,oldF,hn]
     ·simp only[oldF,if_pos hn];exact(hs0.mono fun b hb=>hbW.block b (hP b hb)).sub fun b hb=>Or.inl hb
     ·simp only[oldF,if_pos hn];exact hc0
     ·simp only[oldF,if_pos hn];exact hz3
    ·have oD:=aB9 (w':=W) hoD fun j hj=>by cases hj;exact hbl gD (by have:=(hoD.lt gD rfl).1;omega)
     refine⟨some ⟨gD,0,none⟩,capD,?_,?_,?_,hz1,hz2,?_⟩
     ·rw[h5];simp[aLN,c0,c1,c2,c3,c4,c6,c7,oldF,hn]
     ·simp only[oldF,if_neg hn];exact(aGG (n:=0) oD hs.2.1 (by unfold maxLen;omega)).sub fun b hb=>Or.inr (Or.inr ⟨by omega,hb.2⟩)
     ·simp only[oldF,if_neg hn];exact hcd
     ·simp only[oldF,if_neg hn];omega
   ·rw[aKQ _ _ _ _ e];simp only[if_neg e];exact((hr i hi').mono fun b hb=>hbW.block b (hP b hb)).sub fun b hb=>Or.inl hb
 refine⟨some ⟨gB,0,none⟩,capB,by rw[hln],⟨some ⟨gB,0,none⟩,capB,?_,?_,by rw[hln];exact hcf,?_,?_⟩,hbW⟩
 ·rw[hp]
 ·rw[hp];exact hR
 ·rw[hp];exact ht1
 ·rw[hp];exact ht2
end Go.Proofs.YtcebpkeiaiiphaaGreatDoor
namespace Go.Proofs.YtcebpkeiaiiphaaGreatDoor
open Go.RowKit
def aAG(p:Pt)(i:Nat):Int:=
 if aAO (tth p.types i)=false then 1 else if aCH p.types i (tth p.types i)=true then 2 else if aBY p (tth p.types i).fields (tth p.types i).fields.length=false then 3
 else if keyB (tth p.types i)=false then 4 else if aB4 (tth p.types i) (tth p.types i).fields.length=false then 5 else if aDV (tth p.types i).fields (tth p.types i).fields.length=false then 7 else 0
def aBT(c:Int):Value:=if c=0 then .nilIface else .iface 171 (.int .i64 c)
set_option maxHeartbeats 3200000 in
theorem aL5(p:Pt)(at':Nat)(w:World)(B:Nat)(v:Value)(hP:PRep w (·<B) p v)(hat:at'<p.types.length)(hB:B<=w.heap.size):
  Calls Tryz.prog 96 #[v,.int .i64 at'] w fun e w'=>e=.returned (aBT (aAG p at'))∧Below w.heap.size w w':=by
 have hP':=hP;obtain⟨pname,types⟩:=p;obtain⟨ta,tc,rfl,hK,hnc,hpn⟩:=hP;simp only at hK hnc hpn hat hP';have h56:=hK.1;have HC:Hid (aAG ⟨pname,types⟩ at'=if aAO (tth types at')=false then 1 else if aCH types at' (tth types at')=true then 2 else if aBY ⟨pname,types⟩ (tth types at').fields (tth types at').fields.length=false then 3 else if keyB (tth types at')=false then 4 else if aB4 (tth types at') (tth types at').fields.length=false then 5 else if aDV (tth types at').fields (tth types at').fields.length=false then 7 else 0):=rfl
 obtain⟨b,off,fa,fc,hta,htr,hcs⟩:=hK.at hB at' hat;subst hta;have BX:∀W,Below (w.heap.size+1+1) ((w.alloc (.cells #[.string pname,.slice (some ⟨b,off,none⟩) types.length tc] 46)).alloc (.cells #[.string (tth types at').name,.string (tth types at').key,.slice fa (tth types at').fields.length fc] 96)) W->W.cell? ⟨w.heap.size,0,none⟩=some (.string pname)∧W.cell? ⟨w.heap.size,1,none⟩=some (.slice (some ⟨b,off,none⟩) types.length tc)∧W.cell? ⟨w.heap.size+1,0,none⟩=some (.string (tth types at').name)∧W.cell? ⟨w.heap.size+1,1,none⟩=some (.string (tth types at').key)∧W.cell? ⟨w.heap.size+1,2,none⟩=some (.slice fa (tth types at').fields.length fc)∧Below w.heap.size w W∧w.heap.size+1<W.heap.size:=fun W h=>by
  have hz:=h.size;simp at hz;have a:∀i (hi:i<2),W.cell? ⟨w.heap.size,i,none⟩=some #[Value.string pname,.slice (some ⟨b,off,none⟩) types.length tc][i]:=fun i hi=>(h.cell (p:=⟨w.heap.size,i,none⟩) (by show w.heap.size<_;omega)).trans (((aA2 _ _).cell (p:=⟨w.heap.size,i,none⟩) (by show w.heap.size<_;simp)).trans (aBC _ _ i (by simpa using hi)))
  have c:∀i (hi:i<3),W.cell? ⟨w.heap.size+1,i,none⟩=some #[Value.string (tth types at').name,.string (tth types at').key,.slice fa (tth types at').fields.length fc][i]:=fun i hi=>(h.cell (p:=⟨w.heap.size+1,i,none⟩) (by show w.heap.size+1<_;omega)).trans (by simp)
  exact⟨a 0 (by omega),a 1 (by omega),c 0 (by omega),c 1 (by omega),c 2 (by omega),(aA6 w _ _).trans (h.mono (by omega)),by omega⟩
 have hT0:=Below.refl (w.heap.size+1+1) ((w.alloc (.cells #[.string pname,.slice (some ⟨b,off,none⟩) types.length tc] 46)).alloc (.cells #[.string (tth types at').name,.string (tth types at').key,.slice fa (tth types at').fields.length fc] 96));have TR:=fun W (h:Below (w.heap.size+1+1) ((w.alloc (.cells #[.string pname,.slice (some ⟨b,off,none⟩) types.length tc] 46)).alloc (.cells #[.string (tth types at').name,.string (tth types at').key,.slice fa (tth types at').fields.length fc] 96)) W)=>htr.under ((BX W h).2.2.2.2.2.1.mono hB);have hBW:=fun W (h:Below (w.heap.size+1+1) ((w.alloc (.cells #[.string pname,.slice (some ⟨b,off,none⟩) types.length tc] 46)).alloc (.cells #[.string (tth types at').name,.string (tth types at').key,.slice fa (tth types at').fields.length fc] 96)) W)=>show B<=W.heap.size by have:=(BX W h).2.2.2.2.2.2;omega
 have h1:=fun W h=>aHK (tth types at') W B _ (TR W h) (hBW W h);have h2:=fun W h=>aJH types at' (tth types at') W B (some ⟨b,off,none⟩) tc _ (hK.under ((BX W h).2.2.2.2.2.1.mono hB)) (by omega) (TR W h) (hBW W h)
 have h3:=fun W h=>aIX ⟨pname,types⟩ (tth types at') W B _ _ (hP'.under ((BX W h).2.2.2.2.2.1.mono hB)) (TR W h) (hBW W h);have h4:=fun W h=>aK6 (tth types at') W B _ (TR W h) (hBW W h);have h5:=fun W h=>aKB (tth types at') W B _ (TR W h) (hBW W h);have h6:=fun W h=>aI8 (tth types at') W B _ (TR W h) (hBW W h);obtain⟨c0,c1,c2⟩:=(fun o=>hcs (w.alloc o) (aA2 w o)) |> fun q=>(⟨fun o=>(q o).1,fun o=>(q o).2.1,fun o=>(q o).2.2⟩:(∀o,(w.alloc o).cell? ⟨b,off+at'*3,none⟩=_)∧(∀o,(w.alloc o).cell? ⟨b,off+at'*3+1,none⟩=_)∧(∀o,(w.alloc o).cell? ⟨b,off+at'*3+2,none⟩=_));clear hcs TR hBW;have hai:(at':Int)<(types.length:Int):=by omega
 have hal:(at':Int)<=(tc:Int):=by omega
 cases x1:aAO (tth types at')
 ·rw[x1] at h1;have hcode:Hid (aBT (aAG ⟨pname,types⟩ at')=.iface 171 (.int .i64 1)):=by show _=_;rw[HC.out];simp[aBT,x1]
  go_enter Tryz.func96,Tryz.ntmps96
  go_wp2_with (first
   |(
    go_at_call 131
    refine(h1 _ hT0).mono ?_;rintro e w1 ⟨rfl,hb1⟩;have hT1:=hT0.trans (hb1.mono (by simp))
    obtain⟨p10,p11,t10,t11,t12,hw1,hz1⟩:=BX w1 hT1))
  go_ret
  exact⟨by rw[hcode.out];rfl,hw1⟩
 rw[x1] at h1;cases x2:aCH types at' (tth types at')
 rotate_left
 ·rw[x2] at h2;have hcode:Hid (aBT (aAG ⟨pname,types⟩ at')=.iface 171 (.int .i64 2)):=by show _=_;rw[HC.out];simp[aBT,x1,x2]
  go_enter Tryz.func96,Tryz.ntmps96
  go_wp2_with (first
   |(
    go_at_call 131
    refine(h1 _ hT0).mono ?_;rintro e w1 ⟨rfl,hb1⟩;have hT1:=hT0.trans (hb1.mono (by simp))
    obtain⟨p10,p11,t10,t11,t12,hw1,hz1⟩:=BX w1 hT1))
  go_region_held3 (fun w'=>w'.cell? ⟨w.heap.size,1,none⟩=some (.slice (some ⟨b,off,none⟩) types.length tc)∧w'.cell? ⟨w.heap.size+1,0,none⟩=some (.string (tth types at').name)∧w'.cell? ⟨w.heap.size+1,1,none⟩=some (.string (tth types at').key)∧w'.cell? ⟨w.heap.size+1,2,none⟩=some (.slice fa (tth types at').fields.length fc)) (go_keep)
   (first
    |(
     go_at_call 132
     refine(h2 w1.drew hT1.drew).mono ?_;rintro e w2 ⟨rfl,hb2⟩;have hT2:=hT1.trans ((aAF hb2).mono (by omega))
     obtain⟨p20,p21,t20,t21,t22,hw2,hz2⟩:=BX w2 hT2))
  go_wp2_with fail
  go_ret
  exact⟨by rw[hcode.out];rfl,hw2⟩
 rw[x2] at h2;cases x3:aBY ⟨pname,types⟩ (tth types at').fields (tth types at').fields.length
 ·rw[x3] at h3;have hcode:Hid (aBT (aAG ⟨pname,types⟩ at')=.iface 171 (.int .i64 3)):=by show _=_;rw[HC.out];simp[aBT,x1,x2,x3]
  go_enter Tryz.func96,Tryz.ntmps96
  go_wp2_with (first
   |(
    go_at_call 131
    refine(h1 _ hT0).mono ?_;rintro e w1 ⟨rfl,hb1⟩;have hT1:=hT0.trans (hb1.mono (by simp))
    obtain⟨p10,p11,t10,t11,t12,hw1,hz1⟩:=BX w1 hT1))
  go_region_held3 (fun w'=>w'.cell? ⟨w.heap.size,1,none⟩=some (.slice (some ⟨b,off,none⟩) types.length tc)∧w'.cell? ⟨w.heap.size+1,0,none⟩=some (.string (tth types at').name)∧w'.cell? ⟨w.heap.size+1,1,none⟩=some (.string (tth types at').key)∧w'.cell? ⟨w.heap.size+1,2,none⟩=some (.slice fa (tth types at').fields.length fc)) (go_keep)
   (first
    |(
     go_at_call 132
     refine(h2 w1.drew hT1.drew).mono ?_;rintro e w2 ⟨rfl,hb2⟩;have hT2:=hT1.trans ((aAF hb2).mono (by omega))
     obtain⟨p20,p21,t20,t21,t22,hw2,hz2⟩:=BX w2 hT2))
  go_wp2_with (first
   |(
    go_at_call 133
    refine(h3 w2 hT2).mono ?_;rintro e w3 ⟨rfl,hb3⟩;have hT3:=hT2.trans (hb3.mono (by omega))
    obtain⟨p30,p31,t30,t31,t32,hw3,hz3⟩:=BX w3 hT3))
  go_ret
  exact⟨by rw[hcode.out];rfl,hw3⟩
 rw[x3] at h3;cases x4:keyB (tth types at')
 ·rw[x4] at h4;have hcode:Hid (aBT (aAG ⟨pname,types⟩ at')=.iface 171 (.int .i64 4)):=by show _=_;rw[HC.out];simp[aBT,x1,x2,x3,x4]
  go_enter Tryz.func96,Tryz.ntmps96
  go_wp2_with (first
   |(
    go_at_call 131
    refine(h1 _ hT0).mono ?_;rintro e w1 ⟨rfl,hb1⟩;have hT1:=hT0.trans (hb1.mono (by simp))
    obtain⟨p10,p11,t10,t11,t12,hw1,hz1⟩:=BX w1 hT1))
  go_region_held3 (fun w'=>w'.cell? ⟨w.heap.size,1,none⟩=some (.slice (some ⟨b,off,none⟩) types.length tc)∧w'.cell? ⟨w.heap.size+1,0,none⟩=some (.string (tth types at').name)∧w'.cell? ⟨w.heap.size+1,1,none⟩=some (.string (tth types at').key)∧w'.cell? ⟨w.heap.size+1,2,none⟩=some (.slice fa (tth types at').fields.length fc)) (go_keep)
   (first
    |(
     go_at_call 132
     refine(h2 w1.drew hT1.drew).mono ?_;rintro e w2 ⟨rfl,hb2⟩;have hT2:=hT1.trans ((aAF hb2).mono (by omega))
     obtain⟨p20,p21,t20,t21,t22,hw2,hz2⟩:=BX w2 hT2))
  go_wp2_with (first
   |(
    go_at_call 133
    refine(h3 w2 hT2).mono ?_;rintro e w3 ⟨rfl,hb3⟩;have hT3:=hT2.trans (hb3.mono (by omega))
    obtain⟨p30,p31,t30,t31,t32,hw3,hz3⟩:=BX w3 hT3)
   |(
    go_at_call 134
    refine(h4 w3 hT3).mono ?_;rintro e w4 ⟨rfl,hb4⟩;have hT4:=hT3.trans (hb4.mono (by omega))
    obtain⟨p40,p41,t40,t41,t42,hw4,hz4⟩:=BX w4 hT4))
  go_ret
  exact⟨by rw[hcode.out];rfl,hw4⟩
 rw[x4] at h4;cases x5:aB4 (tth types at') (tth types at').fields.length
 ·rw[x5] at h5;have hcode:Hid (aBT (aAG ⟨pname,types⟩ at')=.iface 171 (.int .i64 5)):=by show _=_;rw[HC.out];simp[aBT,x1,x2,x3,x4,x5]
  go_enter Tryz.func96,Tryz.ntmps96
  go_wp2_with (first
   |(
    go_at_call 131
    refine(h1 _ hT0).mono ?_;rintro e w1 ⟨rfl,hb1⟩;have hT1:=hT0.trans (hb1.mono (by simp))
    obtain⟨p10,p11,t10,t11,t12,hw1,hz1⟩:=BX w1 hT1))
  go_region_held3 (fun w'=>w'.cell? ⟨w.heap.size,1,none⟩=some (.slice (some ⟨b,off,none⟩) types.length tc)∧w'.cell? ⟨w.heap.size+1,0,none⟩=some (.string (tth types at').name)∧w'.cell? ⟨w.heap.size+1,1,none⟩=some (.string (tth types at').key)∧w'.cell? ⟨w.heap.size+1,2,none⟩=some (.slice fa (tth types at').fields.length fc)) (go_keep)
   (first
    |(
     go_at_call 132
     refine(h2 w1.drew hT1.drew).mono ?_;rintro e w2 ⟨rfl,hb2⟩;have hT2:=hT1.trans ((aAF hb2).mono (by omega))
     obtain⟨p20,p21,t20,t21,t22,hw2,hz2⟩:=BX w2 hT2))
  go_wp2_with (first
   |(
    go_at_call 133
    refine(h3 w2 hT2).mono ?_;rintro e w3 ⟨rfl,hb3⟩;have hT3:=hT2.trans (hb3.mono (by omega))
    obtain⟨p30,p31,t30,t31,t32,hw3,hz3⟩:=BX w3 hT3)
   |(
    go_at_call 134
    refine(h4 w3 hT3).mono ?_;rintro e w4 ⟨rfl,hb4⟩;have hT4:=hT3.trans (hb4.mono (by omega))
    obtain⟨p40,p41,t40,t41,t42,hw4,hz4⟩:=BX w4 hT4)
   |(
    go_at_call 135
    refine(h5 w4 hT4).mono ?_;rintro e w5 ⟨rfl,hb5⟩;have hT5:=hT4.trans (hb5.mono (by omega))
    obtain⟨p50,p51,t50,t51,t52,hw5,hz5⟩:=BX w5 hT5))
  go_ret
  exact⟨by rw[hcode.out];rfl,hw5⟩
 rw[x5] at h5;cases x6:aDV (tth types at').fields (tth types at').fields.length
 ·rw[x6] at h6;have hcode:Hid (aBT (aAG ⟨pname,types⟩ at')=.iface 171 (.int .i64 7)):=by show _=_;rw[HC.out];simp[aBT,x1,x2,x3,x4,x5,x6]
  go_enter Tryz.func96,Tryz.ntmps96
  go_wp2_with (first
   |(
    go_at_call 131
    refine(h1 _ hT0).mono ?_;rintro e w1 ⟨rfl,hb1⟩;have hT1:=hT0.trans (hb1.mono (by simp))
    obtain⟨p10,p11,t10,t11,t12,hw1,hz1⟩:=BX w1 hT1))
  go_region_held3 (fun w'=>w'.cell? ⟨w.heap.size,1,none⟩=some (.slice (some ⟨b,off,none⟩) types.length tc)∧w'.cell? ⟨w.heap.size+1,0,none⟩=some (.string (tth types at').name)∧w'.cell? ⟨w.heap.size+1,1,none⟩=some (.string (tth types at').key)∧w'.cell? ⟨w.heap.size+1,2,none⟩=some (.slice fa (tth types at').fields.length fc)) (go_keep)
   (first
    |(
     go_at_call 132
     refine(h2 w1.drew hT1.drew).mono ?_;rintro e w2 ⟨rfl,hb2⟩;have hT2:=hT1.trans ((aAF hb2).mono (by omega))
     obtain⟨p20,p21,t20,t21,t22,hw2,hz2⟩:=BX w2 hT2))
  go_wp2_with (first
   |(
    go_at_call 133
    refine(h3 w2 hT2).mono ?_;rintro e w3 ⟨rfl,hb3⟩;have hT3:=hT2.trans (hb3.mono (by omega))
    obtain⟨p30,p31,t30,t31,t32,hw3,hz3⟩:=BX w3 hT3)
   |(
    go_at_call 134
    refine(h4 w3 hT3).mono ?_;rintro e w4 ⟨rfl,hb4⟩;have hT4:=hT3.trans (hb4.mono (by omega))
    obtain⟨p40,p41,t40,t41,t42,hw4,hz4⟩:=BX w4 hT4)
   |(
    go_at_call 135
    refine(h5 w4 hT4).mono ?_;rintro e w5 ⟨rfl,hb5⟩;have hT5:=hT4.trans (hb5.mono (by omega))
    obtain⟨p50,p51,t50,t51,t52,hw5,hz5⟩:=BX w5 hT5)
   |(
    go_at_call 136
    refine(h6 w5 hT5).mono ?_;rintro e w6 ⟨rfl,hb6⟩;have hT6:=hT5.trans (hb6.mono (by omega))
    obtain⟨p60,p61,t60,t61,t62,hw6,hz6⟩:=BX w6 hT6))
  go_ret
  exact⟨by rw[hcode.out];rfl,hw6⟩
 rw[x6] at h6;have hcode:Hid (aBT (aAG ⟨pname,types⟩ at')=.nilIface):=by show _=_;rw[HC.out];simp[aBT,x1,x2,x3,x4,x5,x6]
 go_enter Tryz.func96,Tryz.ntmps96
 go_wp2_with (first
  |(
   go_at_call 131
   refine(h1 _ hT0).mono ?_;rintro e w1 ⟨rfl,hb1⟩;have hT1:=hT0.trans (hb1.mono (by simp))
   obtain⟨p10,p11,t10,t11,t12,hw1,hz1⟩:=BX w1 hT1))
 go_region_held3 (fun w'=>w'.cell? ⟨w.heap.size,1,none⟩=some (.slice (some ⟨b,off,none⟩) types.length tc)∧w'.cell? ⟨w.heap.size+1,0,none⟩=some (.string (tth types at').name)∧w'.cell? ⟨w.heap.size+1,1,none⟩=some (.string (tth types at').key)∧w'.cell? ⟨w.heap.size+1,2,none⟩=some (.slice fa (tth types at').fields.length fc)) (go_keep)
  (first
   |(
    go_at_call 132
    refine(h2 w1.drew hT1.drew).mono ?_;rintro e w2 ⟨rfl,hb2⟩;have hT2:=hT1.trans ((aAF hb2).mono (by omega))
    obtain⟨p20,p21,t20,t21,t22,hw2,hz2⟩:=BX w2 hT2))
 go_wp2_with (first
  |(
   go_at_call 133
   refine(h3 w2 hT2).mono ?_;rintro e w3 ⟨rfl,hb3⟩;have hT3:=hT2.trans (hb3.mono (by omega))
   obtain⟨p30,p31,t30,t31,t32,hw3,hz3⟩:=BX w3 hT3)
  |(
   go_at_call 134
   refine(h4 w3 hT3).mono ?_;rintro e w4 ⟨rfl,hb4⟩;have hT4:=hT3.trans (hb4.mono (by omega))
   obtain⟨p40,p41,t40,t41,t42,hw4,hz4⟩:=BX w4 hT4)
  |(
   go_at_call 135
   refine(h5 w4 hT4).mono ?_;rintro e w5 ⟨rfl,hb5⟩;have hT5:=hT4.trans (hb5.mono (by omega))
   obtain⟨p50,p51,t50,t51,t52,hw5,hz5⟩:=BX w5 hT5)
  |(
   go_at_call 136
   refine(h6 w5 hT5).mono ?_;rintro e w6 ⟨rfl,hb6⟩;have hT6:=hT5.trans (hb6.mono (by omega))
   obtain⟨p60,p61,t60,t61,t62,hw6,hz6⟩:=BX w6 hT6))
 go_ret
 exact⟨by rw[hcode.out];rfl,hw6⟩
theorem aTR(w:World):Calls Tryz.prog 166 #[.int .u8 4] w fun e w'=>e=.returned (.string ⟨#[102,97,114]⟩)∧w=w':=by
 go_enter Tryz.func166,Tryz.ntmps166
 go_wp2_with fail
 go_ret
 exact⟨rfl,rfl⟩
theorem aO5(w:World):Calls Tryz.prog 166 #[.int .u8 8] w fun e w'=>e=.returned (.string ⟨#[104,105,100,100,101,110]⟩)∧w=w':=by
 go_enter Tryz.func166,Tryz.ntmps166
 go_wp2_with fail
 go_ret
 exact⟨rfl,rfl⟩
theorem aO9(w:World):Calls Tryz.prog 166 #[.int .u8 16] w fun e w'=>e=.returned (.string ⟨#[115,104,97,114,101,100]⟩)∧w=w':=by
 go_enter Tryz.func166,Tryz.ntmps166
 go_wp2_with fail
 go_ret
 exact⟨rfl,rfl⟩
set_option maxHeartbeats 800000 in
theorem aQ8(nm of:ByteArray)(l m fr hi sh:Bool)(needs:List ByteArray)(na:Option Addr)(nl nc:Nat)(w:World)(hs:of.size<=1048576):
  Calls Tryz.prog 165 #[.agg #[.int .u8 (aCD l m fr hi sh),.string nm,.string of,.bool l,.bool m,.bool fr,.bool hi,.bool sh,.slice na nl nc]] w fun e w'=>e=.returned (.string (ofB ⟨nm,of,l,m,fr,hi,sh,needs⟩))∧Below w.heap.size w w':=by
 have h1:=fun w=>aD7 (aCD l m fr hi sh) 1 w;have h2:=fun w=>aD7 (aCD l m fr hi sh) 2 w;rw[aRQ] at h1;rw[aM9] at h2;generalize aCD l m fr hi sh=x at*;have b1:of.size+1<=9223372036854775807:=by omega
 have b2:of.size+1+1<=9223372036854775807:=by omega
 have b3:1+of.size+1+1<=9223372036854775807:=by omega
 have b4:1+of.size+1<=9223372036854775807:=by omega
 have b5:1+of.size<=9223372036854775807:=by omega
 cases l<;>cases m;all_goals
  go_enter Tryz.func165,Tryz.ntmps165
  go_wp2_with (first| (go_at_call_of 161 (Value.int IntKind.u8 1);refine(h1 _).mono ?_;rintro e w' ⟨rfl,rfl⟩)| (go_at_call_of 161 (Value.int IntKind.u8 2);refine(h2 _).mono ?_;rintro e w' ⟨rfl,rfl⟩))
  go_ret
  exact⟨rfl,aA2 _ _⟩
end Go.Proofs.YtcebpkeiaiiphaaGreatDoor
