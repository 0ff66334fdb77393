import Derived.Test.YtcebpkeiaiiphaaGreatDoorRC1
import Derived.ProofKit
import Derived.Deep.Slices
set_option linter.unusedSimpArgs false
set_option linter.unusedVariables false
namespace Go.Proofs.YtcebpkeiaiiphaaGreatDoor
open Go.RowKit Go.Maps Go.ChangeMaps Go.MapKept
structure KeyG(P:Program)(k:TypeId)(I:Value->Prop)(w:World):Prop where
 find:∀(x:Value) (es:List MapEntry),I x->(∀e∈ es,I e.key)->((Instr.findKey k x es).run P w=.ok none w∧∀e∈ es,e.key≠x)∨∃j e,(Instr.findKey k x es).run P w=.ok (some (j,e.val)) w∧es[j]?=some e∧e.key=x
 check:∀(em:Bool) (v:Value),I v->(Instr.checkKey em 10000 k v).run P w=.ok () w
 stays:∀v:Value,I v->Instr.sameBits 10000 v v=true
theorem aPR.gen{P:Program}{k:TypeId}{I:Value->Prop}{w:World}(K:aPR P k I w):KeyG P k I w:=⟨fun x es hx h=>aPL K x hx es h,K.check,K.stays⟩
theorem aDI.lookG{P:Program}{k:TypeId}{I:Value->Prop}{w:World}{b:Nat}{G:Value->Option Value}{t e:TypeId}(c:Bool)(h:aDI w I b G)(K:KeyG P k I w)(ht:P.underlying t=some (.map k e)){z:Value}(hz:(zeroValue e).run P w=.ok z w){x:Value}(hx:I x):
  (Instr.lookup t (.map (some b)) x c).run P w=.ok (if c then .tuple #[(G x).getD z,.bool (G x).isSome] else(G x).getD z) w:=by
 obtain⟨es,clock,hb,h1,h2,h3⟩:=h;rcases K.find x es.toList hx (fun e he=>(h1 e he).1) with⟨r1,r2⟩| ⟨j,e0,r1,r2,r3⟩
 ·have hG:G x=none:=by
   cases hg:G x with
   |none=>rfl
   |some v=>obtain⟨e1,he1,hk1⟩:=h2 x v hg;exact absurd hk1 (r2 e1 he1)
  simp[Instr.lookup,run_underlying ht,MapKept.run_getObj_map hb,K.check _ x hx,r1,hz,hG,Result.andThen]
 ·have hG:G x=some e0.val:=by rw[<-r3];exact(h1 e0 (List.mem_of_getElem? r2)).2
  simp[Instr.lookup,run_underlying ht,MapKept.run_getObj_map hb,K.check _ x hx,r1,hG,Result.andThen]
theorem aDI.storeG{P:Program}{k:TypeId}{I:Value->Prop}{w:World}{b:Nat}{G:Value->Option Value}{t e:TypeId}(h:aDI w I b G)(K:KeyG P k I w)(ht:P.underlying t=some (.map k e)){x:Value}(hx:I x)(v:Value):
  ∃w' G',(Instr.mapUpdate t (.map (some b)) x v).run P w=.ok () w'∧aDI w' I b G'∧G' x=some v∧(∀y,y≠x->G' y=G y)∧w.grownBy w' (some b):=by
 classical
 obtain⟨es,clock,hb,h1,h2,h3⟩:=h;have hgrow:∀o,w.grownBy (setBlock w b o) (some b):=fun o=>⟨rfl,rfl,rfl,by simp[setBlock],fun i _ hi=>heap_setBlock_other hb _ (fun e=>hi (by rw[e]))⟩
 rcases K.find x es.toList hx (fun e he=>(h1 e he).1) with⟨r1,r2⟩| ⟨j,e0,r1,r2,r3⟩
 ·refine⟨setBlock w b (.map (es.push ⟨x,v,clock⟩) (clock+1)),fun y=>if y=x then some v else G y,?_,⟨es.push ⟨x,v,clock⟩,clock+1,heap_setBlock_same hb _,?_,?_,?_⟩,by simp,fun y hy=>by simp[hy],hgrow _⟩
  ·simp[Instr.mapUpdate,run_underlying ht,MapKept.run_getObj_map hb,K.check false x hx,r1,MapKept.run_setObj_map _ hb,Result.andThen,setBlock]
  ·intro e' he';simp only[Array.toList_push,List.mem_append,List.mem_singleton] at he';rcases he' with he'| rfl
   ·exact⟨(h1 e' he').1,by simp only;rw[if_neg (r2 e' he')];exact(h1 e' he').2⟩
   ·exact⟨hx,by simp⟩
  ·intro y u hy;simp only at hy;by_cases hyx:y=x
   ·exact⟨⟨x,v,clock⟩,by simp,hyx.symm⟩
   ·rw[if_neg hyx] at hy;obtain⟨e',he',hk'⟩:=h2 y u hy;exact⟨e',by simp only[Array.toList_push,List.mem_append];exact Or.inl he',hk'⟩
  ·rw[Array.toList_push,List.pairwise_append];exact⟨h3,by simp,fun a ha c hc=>by simp at hc;subst hc;exact r2 a ha⟩
 ·have hj:es[j]?=some e0:=by simpa using r2
  have hlist:(es.modify j (fun e'=>{ e' with key:=x,val:=v })).toList=es.toList.set j { e0 with key:=x,val:=v }:=by rw[Array.toList_modify,modify_eq_set _ _ _ _ r2]
  have hjl:j<es.toList.length:=(List.getElem?_eq_some_iff.1 r2).1;have hej:es.toList[j]=e0:=(List.getElem?_eq_some_iff.1 r2).2;have hoth:∀(i:Nat) (hi:i<es.toList.length),i≠j->es.toList[i].key≠x:=fun i hi hij=>by
   rcases Nat.lt_or_gt_of_ne hij with hlt| hlt
   ·have:=List.pairwise_iff_getElem.1 h3 i j hi hjl hlt;rw[hej,r3] at this;exact this
   ·have:=List.pairwise_iff_getElem.1 h3 j i hjl hi hlt;rw[hej,r3] at this;exact fun e=>this e.symm
  refine⟨setBlock w b (.map (es.modify j (fun e'=>{ e' with key:=x,val:=v })) clock),fun y=>if y=x then some v else G y,?_,⟨_,clock,heap_setBlock_same hb _,?_,?_,?_⟩,by simp,fun y hy=>by simp[hy],hgrow _⟩
  ·have hs:=K.stays x hx;simp[Instr.mapUpdate,run_underlying ht,MapKept.run_getObj_map hb,K.check false x hx,r1,hj,r3,Instr.keyThatStays,hs,MapKept.run_setObj_map _ hb,Result.andThen,setBlock]
  ·intro e' he';rw[hlist] at he';obtain⟨i,hi,rfl⟩:=List.getElem_of_mem he';rw[List.getElem_set];split
   ·exact⟨hx,by simp⟩
   ·rename_i hne;have hi':i<es.toList.length:=by simpa using hi
    exact⟨(h1 _ (List.getElem_mem hi')).1,by simp only;rw[if_neg (hoth i hi' (fun e=>hne e.symm))];exact(h1 _ (List.getElem_mem hi')).2⟩
  ·intro y u hy;rw[hlist];simp only at hy;by_cases hyx:y=x
   ·exact⟨{ e0 with key:=x,val:=v },List.mem_of_getElem? (i:=j) (by rw[List.getElem?_set_self hjl]),hyx.symm⟩
   ·rw[if_neg hyx] at hy;obtain⟨e',he',hk'⟩:=h2 y u hy;obtain⟨i,hi,rfl⟩:=List.getElem_of_mem he';have hij:j≠i:=fun e=>by subst e;rw[hej,r3] at hk';exact hyx hk'.symm
    exact⟨es.toList[i],List.mem_of_getElem? (i:=i) (by rw[List.getElem?_set_ne hij];simp),hk'⟩
  ·rw[hlist,List.pairwise_iff_getElem];intro i i' hi hi' hlt;simp only[List.length_set] at hi hi';rw[List.getElem_set,List.getElem_set];split
   ·rename_i e1;subst e1;rw[if_neg (by omega)]
    exact fun e=>hoth i' hi' (by omega) e.symm
   ·split
    ·rename_i e1 e2;subst e2;exact hoth i hi (fun e=>e1 e.symm)
    ·exact List.pairwise_iff_getElem.1 h3 i i' hi hi' hlt
def SKy(v:Value):Prop:=∃s,v=.string s
theorem keyS(w:World):KeyG Tryz.prog 9 SKy w where
 find x es hx he:=by
  obtain⟨s,rfl⟩:=hx;have hks:∀e∈ es,IsKey .string e.key:=fun e hm=>by
   obtain⟨s',e'⟩:=he e hm;rw[e'];trivial
  rcases findNow_spec (d:=.string) (k:=.string s) trivial es 0 hks with⟨h1,h2⟩| ⟨j,e0,h1,h2,h3⟩
  ·exact Or.inl ⟨run_findKey Tryz.underlying9 h1,h2⟩
  ·exact Or.inr ⟨j,e0,by simpa using run_findKey Tryz.underlying9 h1,h2,h3⟩
 check em v hv:=by obtain⟨s,rfl⟩:=hv;kernel_rfl
 stays v hv:=by
  obtain⟨s,rfl⟩:=hv;show(s==s)=true;show ByteArray.beq s s=true;unfold ByteArray.beq;simp
def fk(t n:ByteArray):Value:=.agg #[.string t,.string n]
theorem aU0{t t' n n':ByteArray}(h:fk t n=fk t' n'):t=t'∧n=n':=by
 simp[fk] at h;exact h
def FKy(v:Value):Prop:=∃t n,v=fk t n
theorem aP1:Tryz.prog.underlying 153=some (.struct (Tryz.prog.fieldsOf 153)):=by kernel_rfl
theorem aUM:Tryz.prog.stoodInHeld 153=false:=by kernel_rfl
theorem aM4:(Tryz.prog.fieldsOf 153).toList.map (fun f=>(f.name,f.type,f.offset))=[("of",9,0),("field",9,1)]:=by kernel_rfl
theorem aSV(w:World)(em:Bool)(t n:ByteArray):(Instr.checkKey em 10000 153 (.agg #[.string t,.string n])).run Tryz.prog w=.ok () w:=by kernel_rfl
theorem aSX(w:World)(t n:ByteArray):(part 9 #[.string t,.string n] 0).run Tryz.prog w=.ok (.string t) w:=by kernel_rfl
theorem aT2(w:World)(t n:ByteArray):(part 9 #[.string t,.string n] 1).run Tryz.prog w=.ok (.string n) w:=by kernel_rfl
theorem aOX(w:World)(a b n m:ByteArray):
  (Op.equal 153 (.agg #[.string a,.string n]) (.agg #[.string b,.string m])).run Tryz.prog w=.ok ((a.toList==b.toList)&&(n.toList==m.toList)) w:=by
 have hp:∀a b:ByteArray,(Op.equalIn 9999 9 (.string a) (.string b)).run Tryz.prog w=.ok (a.toList==b.toList) w:=fun a b=>run_equalIn_string w 9998 9 a b Tryz.underlying9;have hi:=hp n m;have hp:=hp a b;show(Op.equalIn (9999+1) _ _ _).run _ _=_;rw[run_equalIn_agg w 9999 _ _ _ aP1 aUM];obtain⟨f0,f1,hf⟩:∃f0 f1,(Tryz.prog.fieldsOf 153).toList=[f0,f1]:=by
  have h:=congrArg List.length aM4;simp only[List.length_map] at h
  match (Tryz.prog.fieldsOf 153).toList,h with
  |[f0,f1],_=>exact⟨f0,f1,rfl⟩
 have hk:=aM4;rw[hf] at hk ⊢;simp only[List.map_cons,List.map_nil,List.cons.injEq,Prod.mk.injEq,and_true] at hk;obtain⟨⟨n0,t0,o0⟩,n1,t1,o1⟩:=hk;simp only[Op.eqFields,n0,t0,o0,n1,t1,o1];obtain⟨q,hq⟩:∃q,q=(n.toList==m.toList):=⟨_,rfl⟩;obtain⟨r,hr⟩:∃q,q=(a.toList==b.toList):=⟨_,rfl⟩;rw[<-hq] at hi ⊢;rw[<-hr] at hp ⊢;cases r<;>cases q<;>simp[aSX,aT2,hp,hi,Result.andThen]
theorem aOF{a b:ByteArray}(h:a.toList=b.toList):a=b:=by
 have h2:a.data.toList=b.data.toList:=by simpa[ByteArray.toList_eq] using h
 cases a;cases b;simp at h2
 congr
theorem aVU(w:World):aPR Tryz.prog 153 FKy w where
 fields:=⟨_,aP1⟩
 check em v hv:=by obtain⟨t,n,rfl⟩:=hv;exact aSV w em _ _
 same v hv:=by
  obtain⟨t,n,rfl⟩:=hv;have:=aOX w t t n n;simpa[fk] using this
 differ u v hu hv hne:=by
  obtain⟨t,n,rfl⟩:=hu;obtain⟨t',n',rfl⟩:=hv;have:=aOX w t t' n n';rw[fk,fk,this];by_cases e:t=t'
  ·have hn:n≠n':=fun h=>hne (by rw[e,h])
   have:(n.toList==n'.toList)=false:=by simp;exact fun h=>hn (aOF h)
   simp[this]
  ·have:(t.toList==t'.toList)=false:=by simp;exact fun h=>e (aOF h)
   simp[this]
 stays v hv:=by
  obtain⟨t,n,rfl⟩:=hv;have h:∀t:ByteArray,(t==t)=true:=fun t=>by
   show ByteArray.beq t t=true;unfold ByteArray.beq;simp
  simp[fk,Instr.sameBits,h]
theorem keyF(w:World):KeyG Tryz.prog 153 FKy w:=(aVU w).gen
theorem aGR(w:World):(zeroValue 33).run Tryz.prog w=.ok (.slice none 0 0) w:=by kernel_rfl
theorem aH3(w:World):(zeroValue 94).run Tryz.prog w=.ok (.slice none 0 0) w:=by kernel_rfl
theorem aIU(w:World):(zeroValue 76).run Tryz.prog w=.ok (.slice none 0 0) w:=by kernel_rfl
end Go.Proofs.YtcebpkeiaiiphaaGreatDoor
namespace Go.Proofs.YtcebpkeiaiiphaaGreatDoor
open Go.RowKit
structure F where
 name:ByteArray
 of:ByteArray
 list:Bool
 must:Bool
 far:Bool
 hidden:Bool
 shared:Bool
 needs:List ByteArray
structure T where
 name:ByteArray
 key:ByteArray
 fields:List F
structure Pt where
 name:ByteArray
 types:List T
def F.zero:F:=⟨ByteArray.empty,ByteArray.empty,false,false,false,false,false,[]⟩
def T.zero:T:=⟨ByteArray.empty,ByteArray.empty,[]⟩
def fth(fs:List F)(i:Nat):F:=fs.getD i F.zero
def tth(ts:List T)(i:Nat):T:=ts.getD i T.zero
def FRep(w:World)(P:Nat->Prop)(f:F)(v:Value):Prop:=∃(na:Option Addr) (nc:Nat),
 v=.agg #[.string f.name,.string f.of,.bool f.list,.bool f.must,.bool f.far,.bool f.hidden,.bool f.shared,.slice na f.needs.length nc]∧Strs w P f.needs na∧f.needs.length<=nc∧f.name.size<=maxLen∧f.of.size<=maxLen∧16*f.needs.length<=281474976710656
def aBJ(w:World)(P:Nat->Prop)(fs:List F)(a:Option Addr):Prop:=64*fs.length<=281474976710656∧∃C:Nat->Nat->Value,Arr w P 8 fs.length a C∧∀i,i<fs.length->FRep w P (fth fs i) (.agg #[C i 0,C i 1,C i 2,C i 3,C i 4,C i 5,C i 6,C i 7])
def TRep(w:World)(P:Nat->Prop)(t:T)(v:Value):Prop:=∃(fa:Option Addr) (fc:Nat),
 v=.agg #[.string t.name,.string t.key,.slice fa t.fields.length fc]∧aBJ w P t.fields fa∧t.fields.length<=fc∧t.name.size<=maxLen∧t.key.size<=maxLen
def aDA(w:World)(P:Nat->Prop)(ts:List T)(a:Option Addr):Prop:=56*ts.length<=281474976710656∧∃C:Nat->Nat->Value,Arr w P 3 ts.length a C∧∀i,i<ts.length->TRep w P (tth ts i) (.agg #[C i 0,C i 1,C i 2])
def PRep(w:World)(P:Nat->Prop)(p:Pt)(v:Value):Prop:=∃(ta:Option Addr) (tc:Nat),
 v=.agg #[.string p.name,.slice ta p.types.length tc]∧aDA w P p.types ta∧p.types.length<=tc∧p.name.size<=maxLen
theorem FRep.mono{w w':World}{P:Nat->Prop}{f:F}{v:Value}(h:FRep w P f v)(e:∀k,P k->w'.heap[k]?=w.heap[k]?):FRep w' P f v:=by
 obtain⟨na,nc,h1,h2,h3⟩:=h;exact⟨na,nc,h1,h2.mono e,h3⟩
theorem FRep.sub{w:World}{P Q:Nat->Prop}{f:F}{v:Value}(h:FRep w P f v)(e:∀k,P k->Q k):FRep w Q f v:=by
 obtain⟨na,nc,h1,h2,h3⟩:=h;exact⟨na,nc,h1,h2.sub e,h3⟩
theorem aBJ.mono{w w':World}{P:Nat->Prop}{f:List F}{v:Option Addr}(h:aBJ w P f v)(e:∀k,P k->w'.heap[k]?=w.heap[k]?):aBJ w' P f v:=by
 obtain⟨h0,C,h1,h2⟩:=h;exact⟨h0,C,h1.mono e,fun i hi=>(h2 i hi).mono e⟩
theorem aBJ.sub{w:World}{P Q:Nat->Prop}{f:List F}{v:Option Addr}(h:aBJ w P f v)(e:∀k,P k->Q k):aBJ w Q f v:=by
 obtain⟨h0,C,h1,h2⟩:=h;exact⟨h0,C,h1.sub e,fun i hi=>(h2 i hi).sub e⟩
theorem TRep.mono{w w':World}{P:Nat->Prop}{t:T}{v:Value}(h:TRep w P t v)(e:∀k,P k->w'.heap[k]?=w.heap[k]?):TRep w' P t v:=by
 obtain⟨fa,fc,h1,h2,h3⟩:=h;exact⟨fa,fc,h1,h2.mono e,h3⟩
theorem TRep.sub{w:World}{P Q:Nat->Prop}{t:T}{v:Value}(h:TRep w P t v)(e:∀k,P k->Q k):TRep w Q t v:=by
 obtain⟨fa,fc,h1,h2,h3⟩:=h;exact⟨fa,fc,h1,h2.sub e,h3⟩
theorem aDA.mono{w w':World}{P:Nat->Prop}{f:List T}{v:Option Addr}(h:aDA w P f v)(e:∀k,P k->w'.heap[k]?=w.heap[k]?):aDA w' P f v:=by
 obtain⟨h0,C,h1,h2⟩:=h;exact⟨h0,C,h1.mono e,fun i hi=>(h2 i hi).mono e⟩
theorem aDA.sub{w:World}{P Q:Nat->Prop}{f:List T}{v:Option Addr}(h:aDA w P f v)(e:∀k,P k->Q k):aDA w Q f v:=by
 obtain⟨h0,C,h1,h2⟩:=h;exact⟨h0,C,h1.sub e,fun i hi=>(h2 i hi).sub e⟩
theorem PRep.mono{w w':World}{P:Nat->Prop}{t:Pt}{v:Value}(h:PRep w P t v)(e:∀k,P k->w'.heap[k]?=w.heap[k]?):PRep w' P t v:=by
 obtain⟨fa,fc,h1,h2,h3⟩:=h;exact⟨fa,fc,h1,h2.mono e,h3⟩
theorem PRep.sub{w:World}{P Q:Nat->Prop}{t:Pt}{v:Value}(h:PRep w P t v)(e:∀k,P k->Q k):PRep w Q t v:=by
 obtain⟨fa,fc,h1,h2,h3⟩:=h;exact⟨fa,fc,h1,h2.sub e,h3⟩
theorem FRep.under{w w':World}{B:Nat}{x:F}{v:Value}(h:FRep w (·<B) x v)(hb:Below B w w'):FRep w' (·<B) x v:=h.mono fun k hk=>hb.block k hk
theorem aBJ.under{w w':World}{B:Nat}{x:List F}{v:Option Addr}(h:aBJ w (·<B) x v)(hb:Below B w w'):aBJ w' (·<B) x v:=h.mono fun k hk=>hb.block k hk
theorem TRep.under{w w':World}{B:Nat}{x:T}{v:Value}(h:TRep w (·<B) x v)(hb:Below B w w'):TRep w' (·<B) x v:=h.mono fun k hk=>hb.block k hk
theorem aDA.under{w w':World}{B:Nat}{x:List T}{v:Option Addr}(h:aDA w (·<B) x v)(hb:Below B w w'):aDA w' (·<B) x v:=h.mono fun k hk=>hb.block k hk
theorem PRep.under{w w':World}{B:Nat}{x:Pt}{v:Value}(h:PRep w (·<B) x v)(hb:Below B w w'):PRep w' (·<B) x v:=h.mono fun k hk=>hb.block k hk
def szF(f:F):Nat:=f.name.size+f.of.size+szNs f.needs
def aBE(fs:List F)(n:Nat):Nat:=((List.range n).map fun i=>szF (fth fs i)).sum
theorem aC0(fs:List F)(n:Nat):aBE fs (n+1)=aBE fs n+szF (fth fs n):=by simp[aBE,List.range_succ]
def szFs(fs:List F):Nat:=fs.length+aBE fs fs.length
def szT(t:T):Nat:=t.name.size+t.key.size+szFs t.fields
def aB1(ts:List T)(n:Nat):Nat:=((List.range n).map fun i=>szT (tth ts i)).sum
theorem aB8(ts:List T)(n:Nat):aB1 ts (n+1)=aB1 ts n+szT (tth ts n):=by simp[aB1,List.range_succ]
def szTs(ts:List T):Nat:=ts.length+aB1 ts ts.length
def szP(p:Pt):Nat:=p.name.size+szTs p.types
set_option maxHeartbeats 400000 in
theorem aNG(f:F)(w:World)(B:Nat)(v:Value)(left:Int)(hR:FRep w (·<B) f v)(hB:B<=w.heap.size)(hl0:0<=left)(hl1:left<=1048576):
  Calls Tryz.prog 140 #[v,.int .i64 left] w fun e w'=>∃x:Int,e=.returned (.int .i64 x)∧-1<=x∧x<=left∧(0<=x->x+szF f<=left)∧Below w.heap.size w w':=by
 obtain⟨na,nc,rfl,hs,hnc,hn,ho,hb⟩:=hR;obtain⟨name,of,l,m,fa,hi,sh,needs⟩:=f;simp only at hs hnc hn ho hb;unfold maxLen at hn ho;by_cases h1:left<name.size
 ·go_enter Tryz.func140,Tryz.ntmps140
  go_wp2_with fail
  go_ret
  exact⟨-1,rfl,by omega,by omega,by omega,aA2 _ _⟩
 by_cases h2:left- name.size<of.size
 ·go_enter Tryz.func140,Tryz.ntmps140
  go_wp2_with fail
  go_ret
  exact⟨-1,rfl,by omega,by omega,by omega,aA2 _ _⟩
 go_enter Tryz.func140,Tryz.ntmps140
 go_wp2_with (go_at_call 168;refine(aLM needs na nc _ (·<B) (hs.under ((aA2 w _).mono hB)) _ (by omega) (by omega)).mono ?_;rintro e w' ⟨y,rfl,hy0,hy1,hy2,rfl⟩)
 ·go_ret
  exact⟨-1,rfl,by omega,by omega,by omega,aA2 _ _⟩
 ·go_ret
  exact⟨y,rfl,by omega,by omega,fun h=>by have:=hy2 h;simp only[szF];omega,aA2 _ _⟩
set_option maxHeartbeats 400000 in
theorem aMX(fs:List F)(w:World)(B:Nat)(a:Option Addr)(c:Nat)(left:Int)(hK:aBJ w (·<B) fs a)(hB:B<=w.heap.size)(hl0:0<=left)(hl1:left<=1048576):
  Calls Tryz.prog 99 #[.slice a fs.length c,.int .i64 left] w fun e w'=>∃x:Int,e=.returned (.int .i64 x)∧-1<=x∧x<=left∧(0<=x->x+szFs fs<=left)∧Below w.heap.size w w':=by
 obtain⟨h3,C,hA,hr⟩:=hK;by_cases hbig:left<fs.length
 ·go_enter Tryz.func99,Tryz.ntmps99
  go_wp2_with fail
  go_ret
  exact⟨-1,rfl,by omega,by omega,by omega,Below.refl _ _⟩
 by_cases hn0:fs.length=0
 ·have hns:fs=[]:=by simpa using hn0
  subst hns;go_enter Tryz.func99,Tryz.ntmps99
  go_wp2_with fail
  go_loop [1,5] (fun l i=>i=.int .i64 0∧l=.int .i64 left) (fun _ _=>0)
  case atStart=>exact⟨rfl,rfl⟩
  case round=>
   obtain⟨rfl,rfl⟩:=hrel;go_wp2_with fail
   go_ret
   exact⟨left,rfl,by omega,by omega,by simp[szFs,aBE],Below.refl _ _⟩
 ·obtain⟨b,off,rfl,hbB,hc⟩:=hA (by omega)
  go_enter Tryz.func99,Tryz.ntmps99
  go_wp2_with fail
  go_loopw [1,5] (fun l i wr=>∃(k:Nat) (x:Int),k<=fs.length∧i=.int .i64 k∧l=.int .i64 x∧0<=x∧x<=left∧x+aBE fs k+fs.length<=left∧Below w.heap.size w wr) (fun _ i _=>fs.length- (intOf i).toNat)
  case atStart=>exact⟨0,_,Nat.zero_le _,rfl,rfl,by omega,by omega,by simp[aBE],Below.refl _ _⟩
  case round=>
   obtain⟨k,x,hk,rfl,rfl,hx0,hx1,hx2,hbel⟩:=hrel;have HX:Hid (x+aBE fs k+fs.length<=left):=hx2;clear hx2;by_cases hlt:k<fs.length
   ·have hck:∀j,j<8->wr.cell? ⟨b,off+k*8+j,none⟩=some (C k j):=fun j hj=>(hbel.cell (p:=⟨b,off+k*8+j,none⟩) (by show b<_;omega)).trans (hc k hlt j hj)
    have hc0:wr.cell? ⟨b,off+k*8,none⟩=some (C k 0):=hck 0 (by omega)
    have hc1:=hck 1 (by omega)
    have hc2:=hck 2 (by omega)
    have hc3:=hck 3 (by omega)
    have hc4:=hck 4 (by omega)
    have hc5:=hck 5 (by omega)
    have hc6:=hck 6 (by omega)
    have hc7:=hck 7 (by omega)
    clear hck hc;go_wp2_with (go_at_call 140;refine(aNG _ _ B _ x ((hr k hlt).under (hbel.mono hB)) (by have:=hbel.size;omega) hx0 (by omega)).mono ?_;rintro e w' ⟨y,rfl,hy0,hy1,hy2,hby⟩)
    ·go_ret
     exact⟨-1,rfl,by omega,by omega,by omega,hbel.trans (hby.mono hbel.size)⟩
    ·go_roundw
     case rel=>exact⟨k+1,y,by omega,by go_num,rfl,by assumption,by omega,by have:=HX.out;have:=hy2 (by assumption);rw[aC0];omega,hbel.trans (hby.mono hbel.size)⟩
     case measure=>simp[intOf];omega
   ·go_wp2_with fail
    go_ret
    have e:k=fs.length:=by omega
    exact⟨x,rfl,by omega,by omega,fun _=>by have:=HX.out;rw[szFs];rw[e] at this;omega,hbel⟩
set_option maxHeartbeats 400000 in
theorem aPQ(t:T)(w:World)(B:Nat)(v:Value)(left:Int)(hR:TRep w (·<B) t v)(hB:B<=w.heap.size)(hl0:0<=left)(hl1:left<=1048576):
  Calls Tryz.prog 68 #[v,.int .i64 left] w fun e w'=>∃x:Int,e=.returned (.int .i64 x)∧-1<=x∧x<=left∧(0<=x->x+szT t<=left)∧Below w.heap.size w w':=by
 obtain⟨fa,fc,rfl,hs,hnc,hn,ho⟩:=hR;obtain⟨name,key,fields⟩:=t;simp only at hs hnc hn ho;unfold maxLen at hn ho;by_cases h1:left<name.size
 ·go_enter Tryz.func68,Tryz.ntmps68
  go_wp2_with fail
  go_ret
  exact⟨-1,rfl,by omega,by omega,by omega,aA2 _ _⟩
 by_cases h2:left- name.size<key.size
 ·go_enter Tryz.func68,Tryz.ntmps68
  go_wp2_with fail
  go_ret
  exact⟨-1,rfl,by omega,by omega,by omega,aA2 _ _⟩
 go_enter Tryz.func68,Tryz.ntmps68
 go_wp2_with (go_at_call 99;refine(aMX fields _ B fa fc _ (hs.under ((aA2 w _).mono hB)) (by simp;omega) (by omega) (by omega)).mono ?_;rintro e w' ⟨y,rfl,hy0,hy1,hy2,hb⟩)
 ·go_ret
  exact⟨-1,rfl,by omega,by omega,by omega,(aA2 w _).trans (hb.mono (by simp))⟩
 ·go_ret
  exact⟨y,rfl,by omega,by omega,fun h=>by have:=hy2 h;simp only[szT];omega,(aA2 w _).trans (hb.mono (by simp))⟩
set_option maxHeartbeats 400000 in
theorem aOE(ts:List T)(w:World)(B:Nat)(a:Option Addr)(c:Nat)(left:Int)(hK:aDA w (·<B) ts a)(hB:B<=w.heap.size)(hl0:0<=left)(hl1:left<=1048576):
  Calls Tryz.prog 46 #[.slice a ts.length c,.int .i64 left] w fun e w'=>∃x:Int,e=.returned (.int .i64 x)∧-1<=x∧x<=left∧(0<=x->x+szTs ts<=left)∧Below w.heap.size w w':=by
 obtain⟨h3,C,hA,hr⟩:=hK;by_cases hbig:left<ts.length
 ·go_enter Tryz.func46,Tryz.ntmps46
  go_wp2_with fail
  go_ret
  exact⟨-1,rfl,by omega,by omega,by omega,Below.refl _ _⟩
 by_cases hn0:ts.length=0
 ·have hns:ts=[]:=by simpa using hn0
  subst hns;go_enter Tryz.func46,Tryz.ntmps46
  go_wp2_with fail
  go_loop [1,5] (fun l i=>i=.int .i64 0∧l=.int .i64 left) (fun _ _=>0)
  case atStart=>exact⟨rfl,rfl⟩
  case round=>
   obtain⟨rfl,rfl⟩:=hrel;go_wp2_with fail
   go_ret
   exact⟨left,rfl,by omega,by omega,by simp[szTs,aB1],Below.refl _ _⟩
 ·obtain⟨b,off,rfl,hbB,hc⟩:=hA (by omega)
  go_enter Tryz.func46,Tryz.ntmps46
  go_wp2_with fail
  go_loopw [1,5] (fun l i wr=>∃(k:Nat) (x:Int),k<=ts.length∧i=.int .i64 k∧l=.int .i64 x∧0<=x∧x<=left∧x+aB1 ts k+ts.length<=left∧Below w.heap.size w wr) (fun _ i _=>ts.length- (intOf i).toNat)
  case atStart=>exact⟨0,_,Nat.zero_le _,rfl,rfl,by omega,by omega,by simp[aB1],Below.refl _ _⟩
  case round=>
   obtain⟨k,x,hk,rfl,rfl,hx0,hx1,hx2,hbel⟩:=hrel;have HX:Hid (x+aB1 ts k+ts.length<=left):=hx2;clear hx2;by_cases hlt:k<ts.length
   ·have hck:∀j,j<3->wr.cell? ⟨b,off+k*3+j,none⟩=some (C k j):=fun j hj=>(hbel.cell (p:=⟨b,off+k*3+j,none⟩) (by show b<_;omega)).trans (hc k hlt j hj)
    have hc0:wr.cell? ⟨b,off+k*3,none⟩=some (C k 0):=hck 0 (by omega)
    have hc1:=hck 1 (by omega)
    have hc2:=hck 2 (by omega)
    clear hck hc;go_wp2_with (go_at_call 68;refine(aPQ _ _ B _ x ((hr k hlt).under (hbel.mono hB)) (by have:=hbel.size;omega) hx0 (by omega)).mono ?_;rintro e w' ⟨y,rfl,hy0,hy1,hy2,hby⟩)
    ·go_ret
     exact⟨-1,rfl,by omega,by omega,by omega,hbel.trans (hby.mono hbel.size)⟩
    ·go_roundw
     case rel=>exact⟨k+1,y,by omega,by go_num,rfl,by assumption,by omega,by have:=HX.out;have:=hy2 (by assumption);rw[aB8];omega,hbel.trans (hby.mono hbel.size)⟩
     case measure=>simp[intOf];omega
   ·go_wp2_with fail
    go_ret
    have e:k=ts.length:=by omega
    exact⟨x,rfl,by omega,by omega,fun _=>by have:=HX.out;rw[szTs];rw[e] at this;omega,hbel⟩
set_option maxHeartbeats 400000 in
theorem aPZ(p:Pt)(w:World)(B:Nat)(v:Value)(left:Int)(hR:PRep w (·<B) p v)(hB:B<=w.heap.size)(hl0:0<=left)(hl1:left<=1048576):
  Calls Tryz.prog 25 #[v,.int .i64 left] w fun e w'=>∃x:Int,e=.returned (.int .i64 x)∧-1<=x∧x<=left∧(0<=x->x+szP p<=left)∧Below w.heap.size w w':=by
 obtain⟨fa,fc,rfl,hs,hnc,hn⟩:=hR;obtain⟨name,types⟩:=p;simp only at hs hnc hn;unfold maxLen at hn;by_cases h1:left<name.size
 ·go_enter Tryz.func25,Tryz.ntmps25
  go_wp2_with fail
  go_ret
  exact⟨-1,rfl,by omega,by omega,by omega,aA2 _ _⟩
 go_enter Tryz.func25,Tryz.ntmps25
 go_wp2_with (go_at_call 46;refine(aOE types _ B fa fc _ (hs.under ((aA2 w _).mono hB)) (by simp;omega) (by omega) (by omega)).mono ?_;rintro e w' ⟨y,rfl,hy0,hy1,hy2,hb⟩)
 ·go_ret
  exact⟨-1,rfl,by omega,by omega,by omega,(aA2 w _).trans (hb.mono (by simp))⟩
 ·go_ret
  exact⟨y,rfl,by omega,by omega,fun h=>by have:=hy2 h;simp only[szP];omega,(aA2 w _).trans (hb.mono (by simp))⟩
theorem aUK{w w1:World}{f:F}{x:Value}{N:Nat}(hN:N=w.heap.size)(hbw:Below N w w1)(hsz1:w1.heap.size=N+1+1+1+1)
  (hst1:Strs w1 (·=N+1+1+1) f.needs (some ⟨N+1+1+1,0,none⟩)) (h1:f.name.size<=maxLen) (h2:f.of.size<=maxLen) (hbs:16*f.needs.length<=281474976710656) (cs:List Value):
  Below N w (puts (w1.setCell ⟨N+1+1,7,none⟩ x) (N+1) 0 cs)∧
  FRep (puts (w1.setCell ⟨N+1+1,7,none⟩ x) (N+1) 0 cs) (fun b=>N<=b∧b<(puts (w1.setCell ⟨N+1+1,7,none⟩ x) (N+1) 0 cs).heap.size) f
   (.agg #[.string f.name,.string f.of,.bool f.list,.bool f.must,.bool f.far,.bool f.hidden,.bool f.shared,.slice (some ⟨N+1+1+1,0,none⟩) f.needs.length f.needs.length]):=by
 have hsz:(puts (w1.setCell ⟨N+1+1,7,none⟩ x) (N+1) 0 cs).heap.size=w1.heap.size:=by rw[aCC,aC1]
 refine⟨aC5 (by omega) _ _ _ (hbw.setCell (by show N<=N+1+1;omega) _),_,_,rfl,(hst1.mono fun k hk=>?_).sub fun k hk=>?_,Nat.le_refl _,h1,h2,hbs⟩
 ·rw[aC6 _ _ (by omega),Below.heap_setCell _ _ _ _ (by show k≠N+1+1;omega)]
 ·rw[hsz];omega
theorem aQC:(Tryz.prog.info? 80).map (fun i=>(i.zero,i.size,i.bytes))=some (some (.agg #[.string ByteArray.empty,.string ByteArray.empty,.bool false,.bool false,.bool false,.bool false,.bool false,.slice none 0 0]),8,64):=by kernel_rfl
theorem aUH{w w1:World}{t:T}{x:Value}{N:Nat}(hN:N=w.heap.size)(hbw:Below N w w1)(hsz1:N+1+1+1<w1.heap.size)
  (hst1:aBJ w1 (fun b=>N+1+1+1<=b∧b<w1.heap.size) t.fields (some ⟨N+1+1+1,0,none⟩)) (h1:t.name.size<=maxLen) (h2:t.key.size<=maxLen) (cs:List Value):
  Below N w (puts (w1.setCell ⟨N+1+1,2,none⟩ x) (N+1) 0 cs)∧
  TRep (puts (w1.setCell ⟨N+1+1,2,none⟩ x) (N+1) 0 cs) (fun b=>N<=b∧b<(puts (w1.setCell ⟨N+1+1,2,none⟩ x) (N+1) 0 cs).heap.size) t
   (.agg #[.string t.name,.string t.key,.slice (some ⟨N+1+1+1,0,none⟩) t.fields.length t.fields.length]):=by
 have hsz:(puts (w1.setCell ⟨N+1+1,2,none⟩ x) (N+1) 0 cs).heap.size=w1.heap.size:=by rw[aCC,aC1]
 refine⟨aC5 (by omega) _ _ _ (hbw.setCell (by show N<=N+1+1;omega) _),_,_,rfl,(hst1.mono fun k hk=>?_).sub fun k hk=>?_,Nat.le_refl _,h1,h2⟩
 ·rw[aC6 _ _ (by omega),Below.heap_setCell _ _ _ _ (by show k≠N+1+1;omega)]
 ·rw[hsz];omega
theorem aS9:(Tryz.prog.info? 96).map (fun i=>(i.zero,i.size,i.bytes))=some (some (.agg #[.string ByteArray.empty,.string ByteArray.empty,.slice none 0 0]),3,56):=by kernel_rfl
theorem aU5{w w1:World}{p:Pt}{x:Value}{N:Nat}(hN:N=w.heap.size)(hbw:Below N w w1)(hsz1:N+1+1+1<w1.heap.size)
  (hst1:aDA w1 (fun b=>N+1+1+1<=b∧b<w1.heap.size) p.types (some ⟨N+1+1+1,0,none⟩)) (h1:p.name.size<=maxLen) (cs:List Value):
  Below N w (puts (w1.setCell ⟨N+1+1,1,none⟩ x) (N+1) 0 cs)∧
  PRep (puts (w1.setCell ⟨N+1+1,1,none⟩ x) (N+1) 0 cs) (fun b=>N<=b∧b<(puts (w1.setCell ⟨N+1+1,1,none⟩ x) (N+1) 0 cs).heap.size) p
   (.agg #[.string p.name,.slice (some ⟨N+1+1+1,0,none⟩) p.types.length p.types.length]):=by
 have hsz:(puts (w1.setCell ⟨N+1+1,1,none⟩ x) (N+1) 0 cs).heap.size=w1.heap.size:=by rw[aCC,aC1]
 refine⟨aC5 (by omega) _ _ _ (hbw.setCell (by show N<=N+1+1;omega) _),_,_,rfl,(hst1.mono fun k hk=>?_).sub fun k hk=>?_,Nat.le_refl _,h1⟩
 ·rw[aC6 _ _ (by omega),Below.heap_setCell _ _ _ _ (by show k≠N+1+1;omega)]
 ·rw[hsz];omega
end Go.Proofs.YtcebpkeiaiiphaaGreatDoor
namespace Go.Proofs.YtcebpkeiaiiphaaGreatDoor
open Go.RowKit Go.Maps
theorem aGI(fs:List F)(g:F)(i:Nat)(h:i<fs.length):fth (fs++[g]) i=fth fs i:=by
 simp[fth,List.getD_eq_getElem?_getD,List.getElem?_append_left h]
theorem aGE(fs:List F)(g:F):fth (fs++[g]) fs.length=g:=by
 simp[fth,List.getD_eq_getElem?_getD]
def aDG(C:Nat->Nat->Value)(n:Nat):List Value:=(List.range (n*3)).map fun j=>C (j / 3) (j % 3)
theorem aDY(C:Nat->Nat->Value)(n:Nat):(aDG C n).length=n*3:=by simp[aDG]
theorem aGT(C:Nat->Nat->Value)(n i j:Nat)(hi:i<n)(hj:j<3):(aDG C n)[i*3+j]?=some (C i j):=by
 have h1:i*3+j<n*3:=by omega
 have h2:(i*3+j) / 3=i:=by omega
 have h3:(i*3+j) % 3=j:=by omega
 simp[aDG,h1,h2,h3]
theorem aPD{L:List Value}{C:Nat->Nat->Value}{n:Nat}(hl:L.length=n*3)(h:∀i,i<n->∀j,j<3->L[i*3+j]?=some (C i j)):L=aDG C n:=by
 apply List.ext_getElem?;intro x;by_cases hx:x<n*3
 ·have e:x / 3*3+x % 3=x:=by omega
  have h1:=h (x / 3) (by omega) (x % 3) (Nat.mod_lt _ (by omega))
  have h2:=aGT C n (x / 3) (x % 3) (by omega) (Nat.mod_lt _ (by omega))
  rw[e] at h1 h2;rw[h1,h2]
 ·rw[List.getElem?_eq_none (by omega),List.getElem?_eq_none (by rw[aDY];omega)]
theorem aS3(C:Nat->Nat->Value)(n i:Nat)(hi:i<n)(d:Nat->Value):
  (((aDG C n).set (i*3) (d 0)).set (i*3+1) (d 1)).set (i*3+2) (d 2)=aDG (fun a j=>if a=i then d j else C a j) n:=by
 apply aPD
 ·simp[aDY]
 ·intro a ha j hj;have h0:=aGT C n a j ha hj;by_cases e:a=i
  ·subst e;rw[if_pos rfl];have hlen:(aDG C n).length=n*3:=aDY C n;rcases j with _| _| _| j
   ·rw[List.getElem?_set_ne (by omega),List.getElem?_set_ne (by omega),Nat.add_zero,List.getElem?_set_self (by omega)]
   ·rw[List.getElem?_set_ne (by omega),List.getElem?_set_self (by simp[hlen];omega)]
   ·rw[List.getElem?_set_self (by simp[hlen];omega)]
   ·omega
  ·rw[if_neg e,List.getElem?_set_ne (by omega),List.getElem?_set_ne (by omega),List.getElem?_set_ne (by omega),h0]
theorem aQH(C:Nat->Nat->Value)(n:Nat)(d0 d1 d2:Value):aDG C n++[d0,d1,d2]=aDG (fun a j=>if a<n then C a j else[d0,d1,d2].getD j undef) (n+1):=by
 apply aPD
 ·simp[aDY];omega
 ·intro a ha j hj;by_cases e:a<n
  ·rw[if_pos e,List.getElem?_append_left (by rw[aDY];omega),aGT _ _ _ _ e hj]
  ·have:a=n:=by omega
   subst this;rw[if_neg e,List.getElem?_append_right (by rw[aDY];omega),aDY,Nat.add_sub_cancel_left]
   rcases j with _| _| _| j
   all_goals first| rfl| omega
theorem aFX(ts:List T)(g:T)(k i:Nat)(h:i≠k):tth (ts.set k g) i=tth ts i:=by
 simp[tth,List.getD_eq_getElem?_getD,List.getElem?_set_ne (Ne.symm h)]
theorem aHO(ts:List T)(g:T)(k:Nat)(h:k<ts.length):tth (ts.set k g) k=g:=by
 simp[tth,List.getD_eq_getElem?_getD,List.getElem?_set_self h]
theorem aEX(ts:List T)(g:T)(i:Nat)(h:i<ts.length):tth (ts++[g]) i=tth ts i:=by
 simp[tth,List.getD_eq_getElem?_getD,List.getElem?_append_left h]
theorem aDR(ts:List T)(g:T):tth (ts++[g]) ts.length=g:=by
 simp[tth,List.getD_eq_getElem?_getD]
end Go.Proofs.YtcebpkeiaiiphaaGreatDoor
namespace Go.Proofs.YtcebpkeiaiiphaaGreatDoor
open Go.RowKit
theorem aJA(fs:List F):∀i n,i<=n->aBE fs i<=aBE fs n:=fun i n h=>by
 induction h with
 |refl=>exact Nat.le_refl _
 |step h ih=>exact Nat.le_trans ih (by rw[aC0];omega)
theorem aD8(ts:List T):∀i n,i<=n->aB1 ts i<=aB1 ts n:=fun i n h=>by
 induction h with
 |refl=>exact Nat.le_refl _
 |step h ih=>exact Nat.le_trans ih (by rw[aB8];omega)
theorem aNH(fs:List F)(h:szFs fs<=1048576)(j:Nat):(fth fs j).needs.length<=1048576:=by
 by_cases hj:j<fs.length
 ·have h1:=aJA fs (j+1) fs.length hj;rw[aC0] at h1;have h2:(fth fs j).needs.length<=szF (fth fs j):=by simp only[szF,szNs];omega
  have h3:szFs fs=fs.length+aBE fs fs.length:=rfl;omega
 ·have:fth fs j=F.zero:=by simp[fth,List.getD_eq_getElem?_getD,List.getElem?_eq_none (Nat.le_of_not_lt hj)]
  rw[this];simp[F.zero]
theorem aM7(ts:List T)(h:szTs ts<=1048576)(i:Nat):szFs (tth ts i).fields<=1048576:=by
 by_cases hi:i<ts.length
 ·have h1:=aD8 ts (i+1) ts.length hi;rw[aB8] at h1;have h2:szT (tth ts i)=(tth ts i).name.size+(tth ts i).key.size+szFs (tth ts i).fields:=rfl;have h3:szTs ts=ts.length+aB1 ts ts.length:=rfl;omega
 ·have:tth ts i=T.zero:=by simp[tth,List.getD_eq_getElem?_getD,List.getElem?_eq_none (Nat.le_of_not_lt hi)]
  rw[this];decide
end Go.Proofs.YtcebpkeiaiiphaaGreatDoor
namespace Go.Proofs.YtcebpkeiaiiphaaGreatDoor
open Go.RowKit Go.Deep Go.ChangeShapes
theorem Tryz.cells9:Tryz.prog.cellsOf 9=1:=by kernel_rfl
theorem Tryz.cells33:Tryz.prog.cellsOf 33=1:=by kernel_rfl
theorem Tryz.bytes9:Tryz.prog.bytesOf 9=16:=by kernel_rfl
theorem aJ7(b off k:Nat):(⟨b,off,none⟩:Addr).add k=⟨b,off+k,none⟩:=by by_cases h:k=0<;>simp[Addr.add,h]
section
variable {H:Type} {enc:TypeId× Value->H} {w:World}
def aIA(t:TypeId)(d:DataW H):Prop:=∀n∈ d.weights Tryz.prog t,n<=reachBytes
theorem aMS{e:TypeId}:∀{l:List (DataW H)} {d:DataW H},d∈ l->∀n∈ d.weights Tryz.prog e,n∈ DataW.weightsAll Tryz.prog e l
 |x::r,d,hd,n,hn=>by
  rw[DataW.weightsAll,List.mem_append];rcases List.mem_cons.1 hd with rfl| h
  ·exact Or.inl hn
  ·exact Or.inr (aMS h n hn)
theorem aRZ{fuel:Nat}{c:Value}{x:DataW H× List MemPlace}(h:DataW.trod enc Tryz.prog w 0 (fun _=>true) true fuel 33 [c]=some x)(hl:aIA 33 x.1):
  ∃(ns:List ByteArray) (na:Option Addr) (nc:Nat),c=.slice na ns.length nc∧Strs w (·<w.heap.size) ns na∧ns.length<=nc∧16*ns.length<=281474976710656:=by
 rcases open_strings Tryz.underlying33 Tryz.underlying9 Tryz.cells9 h with⟨hc,hx⟩| ⟨a,len,cap,ss,hc,-,hlc,hcm,hsl,rfl,hcell,hsz⟩
 ·simp only[List.cons.injEq,and_true] at hc;exact⟨[],none,0,hc,⟨fun h=>absurd rfl h,fun i=>by simp[nth],by simp⟩,by simp,by simp⟩
 ·simp only[List.cons.injEq,and_true] at hc;simp only[if_true] at hsl;have hlen:(ss.take len).length=len:=by simp;omega
  refine⟨ss.take len,some a,cap,by rw[hlen];exact hc,⟨fun hne=>?_,fun i=>?_,by rw[hlen];omega⟩,by omega,?_⟩
  ·have h0:0<len:=by
    rcases Nat.eq_zero_or_pos len with h| h
    ·subst h;simp at hne
    ·exact h
   obtain⟨b,off,spot⟩:=a;have hs:spot=none:=by simpa[Addr.add] using World.cell?_spot (hcell 0 (by omega))
   subst hs;refine⟨b,off,rfl,?_,fun i hi=>?_⟩
   ·have h1:=hcell 0 (by omega)
    have:w.cells? 0 ⟨b,off,none⟩ 1=some [.string (ss.getD 0 ByteArray.empty)]:=cells?_one (Nat.zero_le _) (by simpa[Addr.add] using h1)
    exact World.cells?_block this (by omega)
   ·have:=hcell i (by omega)
    rw[aJ7] at this;rw[this];simp[nth,List.getD_eq_getElem?_getD,List.getElem?_take,show i<len by omega]
  ·simp only[nth,List.getD_eq_getElem?_getD,List.getElem?_take];split
   ·by_cases hi:i<ss.length
    ·rw[List.getElem?_eq_getElem hi];exact hsz _ (List.getElem_mem hi)
    ·rw[List.getElem?_eq_none (by omega)];simp
   ·simp
  ·have h1:=hl ((strs (H:=H) (ss.take len)).length+(strs (H:=H) (ss.drop len)).length |>.mul (Tryz.prog.bytesOf 9)) (by
    simp only[DataW.weights,Tryz.underlying33];exact List.mem_cons_self ..)
   have h2:((strs (H:=H) (ss.take len)).length+(strs (H:=H) (ss.drop len)).length)*Tryz.prog.bytesOf 9<=reachBytes:=h1;rw[Tryz.bytes9] at h2;simp only[strs,List.length_map,List.length_take,List.length_drop,reachBytes] at h2;omega
theorem aIT{X:Type}(z:X)(R:X->List Value->Prop)(sl e:TypeId)(sz by':Nat)(hu:Tryz.prog.underlying sl=some (.slice e))(hc:Tryz.prog.cellsOf e=sz)(hby:Tryz.prog.bytesOf e=by')(hs0:0<sz)
  {fuel:Nat} {c:Value} {x:DataW H× List MemPlace} (h:DataW.trod enc Tryz.prog w 0 (fun _=>true) true fuel sl [c]=some x) (hl:aIA sl x.1)
  (ih:∀m cs y,DataW.trod enc Tryz.prog w 0 (fun _=>true) true m e cs=some y->aIA e y.1->cs.length=sz∧∃a,R a cs):
  ∃(xs:List X) (a:Option Addr) (cap:Nat) (C:Nat->Nat->Value),c=.slice a xs.length cap∧xs.length<=cap∧by'*xs.length<=281474976710656∧Arr w (·<w.heap.size) sz xs.length a C∧∀i,i<xs.length->R (xs.getD i z) ((List.range sz).map (C i)):=by
 rcases DataW.trod_slice hu h with⟨hc0,-⟩| ⟨a,len,cap,elems,rest,n',hfu,hc0,rfl,-,hlc,hcm,hle,hel,-,-⟩
 ·simp only[List.cons.injEq,and_true] at hc0;exact⟨[],none,0,fun _ _=>undef,hc0,by simp,by simp,fun h=>by simp at h,fun i hi=>by simp at hi⟩
 ·simp only[List.cons.injEq,and_true] at hc0;have hw:by'*len<=281474976710656:=by
   have h1:=hl (((elems.map (·.1)).length+(rest.map (·.1)).length)*Tryz.prog.bytesOf e) (by simp only[DataW.weights,hu];exact List.mem_cons_self ..)
   rw[hby] at h1;simp only[List.length_map,reachBytes] at h1;have h2:len*by'<=(elems.length+rest.length)*by':=Nat.mul_le_mul_right _ (by omega)
   have h3:by'*len=len*by':=Nat.mul_comm _ _
   omega
  have hk:∀i,∃r:X× (Nat->Value),i<len->(∀j,j<sz->w.cell? ((a.add (i*sz)).add j)=some (r.2 j))∧R r.1 ((List.range sz).map r.2):=by
   intro i;by_cases hi:i<len
   ·have hi':i<elems.length:=by omega
    have h1:=hel i hi;rw[List.getElem?_eq_getElem hi',hc] at h1;obtain⟨cs',hcs,htr⟩:=Option.bind_eq_some_iff.1 h1;obtain⟨hlen,y,hR⟩:=ih n' cs' _ htr (fun k hk=>hl k (by
     simp only[DataW.weights,hu];refine List.mem_cons_of_mem _ (List.mem_append_left _ (aMS (d:=elems[i].1) ?_ k hk));exact List.mem_map.2 ⟨elems[i],List.getElem_mem hi',rfl⟩))
    obtain⟨-,-,hcc⟩:=World.cells?_some hcs;have hcs2:(List.range sz).map (fun j=>cs'.getD j undef)=cs':=by
     apply List.ext_getElem
     ·simp[hlen]
     ·intro j h1 h2;simp[List.getD_eq_getElem?_getD,List.getElem?_eq_getElem h2]
    refine⟨(y,fun j=>cs'.getD j undef),fun _=>⟨fun j hj=>?_,?_⟩⟩
    ·rw[hcc j hj];simp[List.getD_eq_getElem?_getD,List.getElem?_eq_getElem (show j<cs'.length by omega)]
    ·show R y ((List.range sz).map (fun j=>cs'.getD j undef));rw[hcs2];exact hR
   ·exact⟨(z,fun _=>undef),fun h=>absurd h hi⟩
  obtain⟨f,hfk⟩:=Classical.skolem.1 hk;have hkl:((List.range len).map fun i=>(f i).1).length=len:=by simp
  refine⟨(List.range len).map fun i=>(f i).1,some a,cap,fun i=>(f i).2,by rw[hkl];exact hc0,by rw[hkl];exact hlc,by rw[hkl];exact hw,?_,?_⟩
  ·intro h0;rw[hkl] at h0 ⊢;have h1:=(hfk 0 h0).1 0 hs0;have h2:w.cell? a=some ((f 0).2 0):=by simpa[Addr.add] using h1
   have hsp:=World.cell?_spot h2;obtain⟨b,off,spot⟩:=a;simp only at hsp;subst hsp;have:w.cells? 0 ⟨b,off,none⟩ 1=some [(f 0).2 0]:=cells?_one (Nat.zero_le _) h2;refine⟨b,off,rfl,World.cells?_block this (by omega),fun i hi j hj=>?_⟩
   have h3:=(hfk i hi).1 j hj;rw[aJ7,aJ7] at h3;exact h3
  ·intro i hi;rw[hkl] at hi;have h1:=(hfk i hi).2;simpa[List.getD_eq_getElem?_getD,List.getElem?_map,List.getElem?_range hi] using h1
end
theorem Tryz.cells43:Tryz.prog.cellsOf 43=2:=by kernel_rfl
theorem Tryz.cells125:Tryz.prog.cellsOf 125=3:=by kernel_rfl
theorem Tryz.cells222:Tryz.prog.cellsOf 222=8:=by kernel_rfl
theorem Tryz.cells4:Tryz.prog.cellsOf 4=1:=by kernel_rfl
theorem Tryz.cells41:Tryz.prog.cellsOf 41=1:=by kernel_rfl
theorem Tryz.cells123:Tryz.prog.cellsOf 123=1:=by kernel_rfl
theorem Tryz.bytes125:Tryz.prog.bytesOf 125=56:=by kernel_rfl
theorem Tryz.bytes222:Tryz.prog.bytesOf 222=64:=by kernel_rfl
section
variable {H:Type} {enc:TypeId× Value->H} {w:World}
theorem aQ7(fuel:Nat)(cs:List Value)(x:DataW H× List MemPlace)(h:DataW.trod enc Tryz.prog w 0 (fun _=>true) true fuel 222 cs=some x)(hl:aIA 222 x.1):
  cs.length=8∧∃(f:F) (c0 c1 c2 c3 c4 c5 c6 c7:Value),cs=[c0,c1,c2,c3,c4,c5,c6,c7]∧FRep w (·<w.heap.size) f (.agg #[c0,c1,c2,c3,c4,c5,c6,c7]):=by
 obtain⟨xs,m,rfl,rfl,hlen,hxl,hf⟩:=DataW.trod_struct Tryz.underlying222 h;rw[Tryz.cells222] at hlen;refine⟨hlen,?_⟩;have hxl':xs.length=8:=hxl;clear hxl;rcases cs with _| ⟨c0,_| ⟨c1,_| ⟨c2,_| ⟨c3,_| ⟨c4,_| ⟨c5,_| ⟨c6,_| ⟨c7,_| ⟨c8,cs9⟩⟩⟩⟩⟩⟩⟩⟩⟩<;>simp at hlen
 rcases xs with _| ⟨y0,_| ⟨y1,_| ⟨y2,_| ⟨y3,_| ⟨y4,_| ⟨y5,_| ⟨y6,_| ⟨y7,_| ⟨y8,ys9⟩⟩⟩⟩⟩⟩⟩⟩⟩<;>simp at hxl'
 have f0:DataW.trod enc Tryz.prog w 0 (fun _=>true) true m 9 [c0]=some y0:=by have:=hf 0 _ rfl;simpa[Tryz.cells9] using this
 have f1:DataW.trod enc Tryz.prog w 0 (fun _=>true) true m 9 [c1]=some y1:=by have:=hf 1 _ rfl;simpa[Tryz.cells9] using this
 have f2:DataW.trod enc Tryz.prog w 0 (fun _=>true) true m 4 [c2]=some y2:=by have:=hf 2 _ rfl;simpa[Tryz.cells4] using this
 have f3:DataW.trod enc Tryz.prog w 0 (fun _=>true) true m 4 [c3]=some y3:=by have:=hf 3 _ rfl;simpa[Tryz.cells4] using this
 have f4:DataW.trod enc Tryz.prog w 0 (fun _=>true) true m 4 [c4]=some y4:=by have:=hf 4 _ rfl;simpa[Tryz.cells4] using this
 have f5:DataW.trod enc Tryz.prog w 0 (fun _=>true) true m 4 [c5]=some y5:=by have:=hf 5 _ rfl;simpa[Tryz.cells4] using this
 have f6:DataW.trod enc Tryz.prog w 0 (fun _=>true) true m 4 [c6]=some y6:=by have:=hf 6 _ rfl;simpa[Tryz.cells4] using this
 have f7:DataW.trod enc Tryz.prog w 0 (fun _=>true) true m 33 [c7]=some y7:=by have:=hf 7 _ rfl;simpa[Tryz.cells33] using this
 have l7:aIA 33 y7.1:=fun k hk=>hl k (by simp[DataW.weights,Tryz.underlying222,DataW.weightsEach,hk])
 clear hf h hl;obtain⟨nm,e0,-,hn⟩:=DataW.trod_string Tryz.underlying9 f0;obtain⟨of,e1,-,ho⟩:=DataW.trod_string Tryz.underlying9 f1;obtain⟨b2,e2,-⟩:=DataW.trod_bool Tryz.underlying4 f2;obtain⟨b3,e3,-⟩:=DataW.trod_bool Tryz.underlying4 f3;obtain⟨b4,e4,-⟩:=DataW.trod_bool Tryz.underlying4 f4;obtain⟨b5,e5,-⟩:=DataW.trod_bool Tryz.underlying4 f5;obtain⟨b6,e6,-⟩:=DataW.trod_bool Tryz.underlying4 f6;obtain⟨ns,na,nc,rfl,hS,hnc,hb⟩:=aRZ f7 l7;simp only[List.cons.injEq,and_true] at e0 e1 e2 e3 e4 e5 e6;subst e0 e1 e2 e3 e4 e5 e6;exact⟨⟨nm,of,b2,b3,b4,b5,b6,ns⟩,_,_,_,_,_,_,_,_,rfl,na,nc,rfl,hS,hnc,hn,ho,hb⟩
theorem aSE(fuel:Nat)(cs:List Value)(x:DataW H× List MemPlace)(h:DataW.trod enc Tryz.prog w 0 (fun _=>true) true fuel 125 cs=some x)(hl:aIA 125 x.1):
  cs.length=3∧∃(t:T) (c0 c1 c2:Value),cs=[c0,c1,c2]∧TRep w (·<w.heap.size) t (.agg #[c0,c1,c2]):=by
 obtain⟨xs,m,rfl,rfl,hlen,hxl,hf⟩:=DataW.trod_struct Tryz.underlying125 h;rw[Tryz.cells125] at hlen;refine⟨hlen,?_⟩;have hxl':xs.length=3:=hxl;clear hxl;rcases cs with _| ⟨c0,_| ⟨c1,_| ⟨c2,_| ⟨c3,cs9⟩⟩⟩⟩<;>simp at hlen
 rcases xs with _| ⟨y0,_| ⟨y1,_| ⟨y2,_| ⟨y3,ys9⟩⟩⟩⟩<;>simp at hxl'
 have f0:DataW.trod enc Tryz.prog w 0 (fun _=>true) true m 9 [c0]=some y0:=by have:=hf 0 _ rfl;simpa[Tryz.cells9] using this
 have f1:DataW.trod enc Tryz.prog w 0 (fun _=>true) true m 9 [c1]=some y1:=by have:=hf 1 _ rfl;simpa[Tryz.cells9] using this
 have f2:DataW.trod enc Tryz.prog w 0 (fun _=>true) true m 123 [c2]=some y2:=by have:=hf 2 _ rfl;simpa[Tryz.cells123] using this
 have l2:aIA 123 y2.1:=fun k hk=>hl k (by simp[DataW.weights,Tryz.underlying125,DataW.weightsEach,hk])
 clear hf h hl;obtain⟨nm,e0,-,hn⟩:=DataW.trod_string Tryz.underlying9 f0;obtain⟨ky,e1,-,ho⟩:=DataW.trod_string Tryz.underlying9 f1;obtain⟨fs,fa,fc,C,rfl,hfc,hb,hA,hr⟩:=aIT F.zero (fun f cs=>∃(c0 c1 c2 c3 c4 c5 c6 c7:Value),cs=[c0,c1,c2,c3,c4,c5,c6,c7]∧FRep w (·<w.heap.size) f (.agg #[c0,c1,c2,c3,c4,c5,c6,c7])) 123 222 8 64 Tryz.underlying123 Tryz.cells222 Tryz.bytes222 (by omega) f2 l2 aQ7
 simp only[List.cons.injEq,and_true] at e0 e1;subst e0 e1;refine⟨⟨nm,ky,fs⟩,_,_,_,rfl,fa,fc,rfl,⟨hb,C,hA,fun i hi=>?_⟩,hfc,hn,ho⟩;obtain⟨d0,d1,d2,d3,d4,d5,d6,d7,hd,hR⟩:=hr i hi;simp only[List.range,List.range.loop,List.map_cons,List.map_nil,List.cons.injEq,and_true] at hd;obtain⟨rfl,rfl,rfl,rfl,rfl,rfl,rfl,rfl⟩:=hd;exact hR
theorem aS4(fuel:Nat)(cs:List Value)(x:DataW H× List MemPlace)(h:DataW.trod enc Tryz.prog w 0 (fun _=>true) true fuel 43 cs=some x)(hl:aIA 43 x.1):
  ∃(p:Pt) (c0 c1:Value),cs=[c0,c1]∧PRep w (·<w.heap.size) p (.agg #[c0,c1]):=by
 obtain⟨xs,m,rfl,rfl,hlen,hxl,hf⟩:=DataW.trod_struct Tryz.underlying43 h;rw[Tryz.cells43] at hlen;have hxl':xs.length=2:=hxl;clear hxl;rcases cs with _| ⟨c0,_| ⟨c1,_| ⟨c2,cs9⟩⟩⟩<;>simp at hlen
 rcases xs with _| ⟨y0,_| ⟨y1,_| ⟨y2,ys9⟩⟩⟩<;>simp at hxl'
 have f0:DataW.trod enc Tryz.prog w 0 (fun _=>true) true m 9 [c0]=some y0:=by have:=hf 0 _ rfl;simpa[Tryz.cells9] using this
 have f1:DataW.trod enc Tryz.prog w 0 (fun _=>true) true m 41 [c1]=some y1:=by have:=hf 1 _ rfl;simpa[Tryz.cells41] using this
 have l1:aIA 41 y1.1:=fun k hk=>hl k (by simp[DataW.weights,Tryz.underlying43,DataW.weightsEach,hk])
 clear hf h hl;obtain⟨nm,e0,-,hn⟩:=DataW.trod_string Tryz.underlying9 f0;obtain⟨ts,ta,tc,C,rfl,htc,hb,hA,hr⟩:=aIT T.zero (fun t cs=>∃(c0 c1 c2:Value),cs=[c0,c1,c2]∧TRep w (·<w.heap.size) t (.agg #[c0,c1,c2])) 41 125 3 56 Tryz.underlying41 Tryz.cells125 Tryz.bytes125 (by omega) f1 l1 aSE
 simp only[List.cons.injEq,and_true] at e0;subst e0;refine⟨⟨nm,ts⟩,_,_,rfl,ta,tc,rfl,⟨hb,C,hA,fun i hi=>?_⟩,htc,hn⟩;obtain⟨d0,d1,d2,hd,hR⟩:=hr i hi;simp only[List.range,List.range.loop,List.map_cons,List.map_nil,List.cons.injEq,and_true] at hd;obtain⟨rfl,rfl,rfl⟩:=hd;exact hR
end
end Go.Proofs.YtcebpkeiaiiphaaGreatDoor
