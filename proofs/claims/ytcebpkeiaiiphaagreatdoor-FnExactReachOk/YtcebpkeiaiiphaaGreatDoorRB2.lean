import Derived.Test.YtcebpkeiaiiphaaGreatDoorRB1
import Derived.ProofKit
import Derived.Deep.Slices
set_option linter.unusedSimpArgs false
set_option linter.unusedVariables false
namespace Go.Proofs.YtcebpkeiaiiphaaGreatDoor
open Go.RowKit Go.Maps Go.ChangeMaps Go.MapKept
structure KeyG(P:Program)(k:TypeId)(I:Value→Prop)(w:World):Prop where
 find:∀(x:Value) (es:List MapEntry),I x→(∀e∈ es,I e.key)→((Instr.findKey k x es).run P w=.ok none w∧∀e∈ es,e.key≠x)∨∃j e,(Instr.findKey k x es).run P w=.ok (some (j,e.val)) w∧es[j]?=some e∧e.key=x
 check:∀(em:Bool) (v:Value),I v→(Instr.checkKey em 10000 k v).run P w=.ok () w
 stays:∀v:Value,I v→Instr.sameBits 10000 v v=true
theorem aPJ.gen{P:Program}{k:TypeId}{I:Value→Prop}{w:World}(K:aPJ P k I w):KeyG P k I w:=⟨fun x es hx h=>aPT K x hx es h,K.check,K.stays⟩
theorem aDC.lookG{P:Program}{k:TypeId}{I:Value→Prop}{w:World}{b:Nat}{G:Value→Option Value}{t e:TypeId}(c:Bool)(h:aDC w I b G)(K:KeyG P k I w)(ht:P.underlying t=some (.map k e)){z:Value}(hz:(zeroValue e).run P w=.ok z w){x:Value}(hx:I x):
  (Instr.lookup t (.map (some b)) x c).run P w=.ok (if c then .tuple #[(G x).getD z,.bool (G x).isSome] else(G x).getD z) w:=by
 obtain⟨es,clock,hb,h1,h2,h3⟩:=h
 rcases K.find x es.toList hx (fun e he=>(h1 e he).1) with⟨r1,r2⟩| ⟨j,e0,r1,r2,r3⟩
 ·have hG:G x=none:=by
   cases hg:G x with
   |none=>rfl
   |some v=>obtain⟨e1,he1,hk1⟩:=h2 x v hg;exact absurd hk1 (r2 e1 he1)
  simp[Instr.lookup,run_underlying ht,MapKept.run_getObj_map hb,K.check _ x hx,r1,hz,hG,Result.andThen]
 ·have hG:G x=some e0.val:=by rw[←r3];exact(h1 e0 (List.mem_of_getElem? r2)).2
  simp[Instr.lookup,run_underlying ht,MapKept.run_getObj_map hb,K.check _ x hx,r1,hG,Result.andThen]
theorem aDC.storeG{P:Program}{k:TypeId}{I:Value→Prop}{w:World}{b:Nat}{G:Value→Option Value}{t e:TypeId}(h:aDC w I b G)(K:KeyG P k I w)(ht:P.underlying t=some (.map k e)){x:Value}(hx:I x)(v:Value):
  ∃w' G',(Instr.mapUpdate t (.map (some b)) x v).run P w=.ok () w'∧aDC w' I b G'∧G' x=some v∧(∀y,y≠x→G' y=G y)∧w.grownBy w' (some b):=by
 classical
 obtain⟨es,clock,hb,h1,h2,h3⟩:=h
 have hgrow:∀o,w.grownBy (setBlock w b o) (some b):=fun o=>⟨rfl,rfl,rfl,by simp[setBlock],fun i _ hi=>heap_setBlock_other hb _ (fun e=>hi (by rw[e]))⟩
 rcases K.find x es.toList hx (fun e he=>(h1 e he).1) with⟨r1,r2⟩| ⟨j,e0,r1,r2,r3⟩
 ·refine⟨setBlock w b (.map (es.push ⟨x,v,clock⟩) (clock+1)),fun y=>if y=x then some v else G y,?_,⟨es.push ⟨x,v,clock⟩,clock+1,heap_setBlock_same hb _,?_,?_,?_⟩,by simp,fun y hy=>by simp[hy],hgrow _⟩
  ·simp[Instr.mapUpdate,run_underlying ht,MapKept.run_getObj_map hb,K.check false x hx,r1,MapKept.run_setObj_map _ hb,Result.andThen,setBlock]
  ·intro e' he'
   simp only[Array.toList_push,List.mem_append,List.mem_singleton] at he'
   rcases he' with he'| rfl
   ·exact⟨(h1 e' he').1,by simp only;rw[if_neg (r2 e' he')];exact(h1 e' he').2⟩
   ·exact⟨hx,by simp⟩
  ·intro y u hy
   simp only at hy
   by_cases hyx:y=x
   ·exact⟨⟨x,v,clock⟩,by simp,hyx.symm⟩
   ·rw[if_neg hyx] at hy
    obtain⟨e',he',hk'⟩:=h2 y u hy
    exact⟨e',by simp only[Array.toList_push,List.mem_append];exact Or.inl he',hk'⟩
  ·rw[Array.toList_push,List.pairwise_append]
   exact⟨h3,by simp,fun a ha c hc=>by simp at hc;subst hc;exact r2 a ha⟩
 ·have hj:es[j]?=some e0:=by simpa using r2
  have hlist:(es.modify j (fun e'=>{ e' with key:=x,val:=v })).toList=es.toList.set j { e0 with key:=x,val:=v }:=by rw[Array.toList_modify,modify_eq_set _ _ _ _ r2]
  have hjl:j<es.toList.length:=(List.getElem?_eq_some_iff.1 r2).1
  have hej:es.toList[j]=e0:=(List.getElem?_eq_some_iff.1 r2).2
  have hoth:∀(i:Nat) (hi:i<es.toList.length),i≠j→es.toList[i].key≠x:=fun i hi hij=>by
   rcases Nat.lt_or_gt_of_ne hij with hlt| hlt
   ·have:=List.pairwise_iff_getElem.1 h3 i j hi hjl hlt
    rw[hej,r3] at this;exact this
   ·have:=List.pairwise_iff_getElem.1 h3 j i hjl hi hlt
    rw[hej,r3] at this;exact fun e=>this e.symm
  refine⟨setBlock w b (.map (es.modify j (fun e'=>{ e' with key:=x,val:=v })) clock),fun y=>if y=x then some v else G y,?_,⟨_,clock,heap_setBlock_same hb _,?_,?_,?_⟩,by simp,fun y hy=>by simp[hy],hgrow _⟩
  ·have hs:=K.stays x hx
   simp[Instr.mapUpdate,run_underlying ht,MapKept.run_getObj_map hb,K.check false x hx,r1,hj,r3,Instr.keyThatStays,hs,MapKept.run_setObj_map _ hb,Result.andThen,setBlock]
  ·intro e' he'
   rw[hlist] at he'
   obtain⟨i,hi,rfl⟩:=List.getElem_of_mem he'
   rw[List.getElem_set]
   split
   ·exact⟨hx,by simp⟩
   ·rename_i hne
    have hi':i<es.toList.length:=by simpa using hi
    exact⟨(h1 _ (List.getElem_mem hi')).1,by simp only;rw[if_neg (hoth i hi' (fun e=>hne e.symm))];exact(h1 _ (List.getElem_mem hi')).2⟩
  ·intro y u hy
   rw[hlist]
   simp only at hy
   by_cases hyx:y=x
   ·exact⟨{ e0 with key:=x,val:=v },List.mem_of_getElem? (i:=j) (by rw[List.getElem?_set_self hjl]),hyx.symm⟩
   ·rw[if_neg hyx] at hy
    obtain⟨e',he',hk'⟩:=h2 y u hy
    obtain⟨i,hi,rfl⟩:=List.getElem_of_mem he'
    have hij:j≠i:=fun e=>by subst e;rw[hej,r3] at hk';exact hyx hk'.symm
    exact⟨es.toList[i],List.mem_of_getElem? (i:=i) (by rw[List.getElem?_set_ne hij];simp),hk'⟩
  ·rw[hlist,List.pairwise_iff_getElem]
   intro i i' hi hi' hlt
   simp only[List.length_set] at hi hi'
   rw[List.getElem_set,List.getElem_set]
   split
   ·rename_i e1
    subst e1
    rw[if_neg (by omega)]
    exact fun e=>hoth i' hi' (by omega) e.symm
   ·split
    ·rename_i e1 e2
     subst e2
     exact hoth i hi (fun e=>e1 e.symm)
    ·exact List.pairwise_iff_getElem.1 h3 i i' hi hi' hlt
def SKy(v:Value):Prop:=∃s,v=.string s
theorem keyS(w:World):KeyG Tryz.prog 9 SKy w where
 find x es hx he:=by
  obtain⟨s,rfl⟩:=hx
  have hks:∀e∈ es,IsKey .string e.key:=fun e hm=>by
   obtain⟨s',e'⟩:=he e hm
   rw[e']
   trivial
  rcases findNow_spec (d:=.string) (k:=.string s) trivial es 0 hks with⟨h1,h2⟩| ⟨j,e0,h1,h2,h3⟩
  ·exact Or.inl ⟨run_findKey Tryz.underlying9 h1,h2⟩
  ·exact Or.inr ⟨j,e0,by simpa using run_findKey Tryz.underlying9 h1,h2,h3⟩
 check em v hv:=by obtain⟨s,rfl⟩:=hv;kernel_rfl
 stays v hv:=by
  obtain⟨s,rfl⟩:=hv
  show(s==s)=true
  show ByteArray.beq s s=true
  unfold ByteArray.beq
  simp
def fk(t n:ByteArray):Value:=.agg #[.string t,.string n]
theorem aTR{t t' n n':ByteArray}(h:fk t n=fk t' n'):t=t'∧n=n':=by
 simp[fk] at h
 exact h
def FKy(v:Value):Prop:=∃t n,v=fk t n
theorem aP2:Tryz.prog.underlying 153=some (.struct (Tryz.prog.fieldsOf 153)):=by kernel_rfl
theorem aU1:Tryz.prog.stoodInHeld 153=false:=by kernel_rfl
theorem aMI:(Tryz.prog.fieldsOf 153).toList.map (fun f=>(f.name,f.type,f.offset))=[("of",9,0),("field",9,1)]:=by kernel_rfl
theorem aSW(w:World)(em:Bool)(t n:ByteArray):(Instr.checkKey em 10000 153 (.agg #[.string t,.string n])).run Tryz.prog w=.ok () w:=by kernel_rfl
theorem aSP(w:World)(t n:ByteArray):(part 9 #[.string t,.string n] 0).run Tryz.prog w=.ok (.string t) w:=by kernel_rfl
theorem aSN(w:World)(t n:ByteArray):(part 9 #[.string t,.string n] 1).run Tryz.prog w=.ok (.string n) w:=by kernel_rfl
theorem aOG(w:World)(a b n m:ByteArray):
  (Op.equal 153 (.agg #[.string a,.string n]) (.agg #[.string b,.string m])).run Tryz.prog w=.ok ((a.toList==b.toList)&&(n.toList==m.toList)) w:=by
 have hp:∀a b:ByteArray,(Op.equalIn 9999 9 (.string a) (.string b)).run Tryz.prog w=.ok (a.toList==b.toList) w:=fun a b=>run_equalIn_string w 9998 9 a b Tryz.underlying9
 have hi:=hp n m
 have hp:=hp a b
 show(Op.equalIn (9999+1) _ _ _).run _ _=_
 rw[run_equalIn_agg w 9999 _ _ _ aP2 aU1]
 obtain⟨f0,f1,hf⟩:∃f0 f1,(Tryz.prog.fieldsOf 153).toList=[f0,f1]:=by
  have h:=congrArg List.length aMI
  simp only[List.length_map] at h
  match (Tryz.prog.fieldsOf 153).toList,h with
  |[f0,f1],_=>exact⟨f0,f1,rfl⟩
 have hk:=aMI
 rw[hf] at hk ⊢
 simp only[List.map_cons,List.map_nil,List.cons.injEq,Prod.mk.injEq,and_true] at hk
 obtain⟨⟨n0,t0,o0⟩,n1,t1,o1⟩:=hk
 simp only[Op.eqFields,n0,t0,o0,n1,t1,o1]
 obtain⟨q,hq⟩:∃q,q=(n.toList==m.toList):=⟨_,rfl⟩
 obtain⟨r,hr⟩:∃q,q=(a.toList==b.toList):=⟨_,rfl⟩
 rw[←hq] at hi ⊢
 rw[←hr] at hp ⊢
 cases r<;>cases q<;>simp[aSP,aSN,hp,hi,Result.andThen]
theorem aO2{a b:ByteArray}(h:a.toList=b.toList):a=b:=by
 have h2:a.data.toList=b.data.toList:=by simpa[ByteArray.toList_eq] using h
 cases a;cases b
 simp at h2
 congr
theorem aVF(w:World):aPJ Tryz.prog 153 FKy w where
 fields:=⟨_,aP2⟩
 check em v hv:=by obtain⟨t,n,rfl⟩:=hv;exact aSW w em _ _
 same v hv:=by
  obtain⟨t,n,rfl⟩:=hv
  have:=aOG w t t n n
  simpa[fk] using this
 differ u v hu hv hne:=by
  obtain⟨t,n,rfl⟩:=hu
  obtain⟨t',n',rfl⟩:=hv
  have:=aOG w t t' n n'
  rw[fk,fk,this]
  by_cases e:t=t'
  ·have hn:n≠n':=fun h=>hne (by rw[e,h])
   have:(n.toList==n'.toList)=false:=by simp;exact fun h=>hn (aO2 h)
   simp[this]
  ·have:(t.toList==t'.toList)=false:=by simp;exact fun h=>e (aO2 h)
   simp[this]
 stays v hv:=by
  obtain⟨t,n,rfl⟩:=hv
  have h:∀t:ByteArray,(t==t)=true:=fun t=>by
   show ByteArray.beq t t=true
   unfold ByteArray.beq
   simp
  simp[fk,Instr.sameBits,h]
theorem keyF(w:World):KeyG Tryz.prog 153 FKy w:=(aVF w).gen
theorem aGQ(w:World):(zeroValue 33).run Tryz.prog w=.ok (.slice none 0 0) w:=by kernel_rfl
theorem aGJ(w:World):(zeroValue 94).run Tryz.prog w=.ok (.slice none 0 0) w:=by kernel_rfl
theorem aJ1(w:World):(zeroValue 76).run Tryz.prog w=.ok (.slice none 0 0) w:=by kernel_rfl
end Go.Proofs.YtcebpkeiaiiphaaGreatDoor
namespace Go.Proofs.YtcebpkeiaiiphaaGreatDoor
open Go.RowKit
structure F where
 name:ByteArray
 of:ByteArray
 list:Bool
 must:Bool
 far:Bool
 hidden:Bool
 shared:Bool
 needs:List ByteArray
structure T where
 name:ByteArray
 key:ByteArray
 fields:List F
structure Pt where
 name:ByteArray
 types:List T
def F.zero:F:=⟨ByteArray.empty,ByteArray.empty,false,false,false,false,false,[]⟩
def T.zero:T:=⟨ByteArray.empty,ByteArray.empty,[]⟩
def fth(fs:List F)(i:Nat):F:=fs.getD i F.zero
def tth(ts:List T)(i:Nat):T:=ts.getD i T.zero
def FRep(w:World)(P:Nat→Prop)(f:F)(v:Value):Prop:=∃(na:Option Addr) (nc:Nat),
 v=.agg #[.string f.name,.string f.of,.bool f.list,.bool f.must,.bool f.far,.bool f.hidden,.bool f.shared,.slice na f.needs.length nc]∧Strs w P f.needs na∧f.needs.length≤nc∧f.name.size≤maxLen∧f.of.size≤maxLen∧16*f.needs.length≤281474976710656
def aBE(w:World)(P:Nat→Prop)(fs:List F)(a:Option Addr):Prop:=64*fs.length≤281474976710656∧∃C:Nat→Nat→Value,Arr w P 8 fs.length a C∧∀i,i<fs.length→FRep w P (fth fs i) (.agg #[C i 0,C i 1,C i 2,C i 3,C i 4,C i 5,C i 6,C i 7])
def TRep(w:World)(P:Nat→Prop)(t:T)(v:Value):Prop:=∃(fa:Option Addr) (fc:Nat),
 v=.agg #[.string t.name,.string t.key,.slice fa t.fields.length fc]∧aBE w P t.fields fa∧t.fields.length≤fc∧t.name.size≤maxLen∧t.key.size≤maxLen
def aCP(w:World)(P:Nat→Prop)(ts:List T)(a:Option Addr):Prop:=56*ts.length≤281474976710656∧∃C:Nat→Nat→Value,Arr w P 3 ts.length a C∧∀i,i<ts.length→TRep w P (tth ts i) (.agg #[C i 0,C i 1,C i 2])
def PRep(w:World)(P:Nat→Prop)(p:Pt)(v:Value):Prop:=∃(ta:Option Addr) (tc:Nat),
 v=.agg #[.string p.name,.slice ta p.types.length tc]∧aCP w P p.types ta∧p.types.length≤tc∧p.name.size≤maxLen
theorem FRep.mono{w w':World}{P:Nat→Prop}{f:F}{v:Value}(h:FRep w P f v)(e:∀k,P k→w'.heap[k]?=w.heap[k]?):FRep w' P f v:=by
 obtain⟨na,nc,h1,h2,h3⟩:=h;exact⟨na,nc,h1,h2.mono e,h3⟩
theorem FRep.sub{w:World}{P Q:Nat→Prop}{f:F}{v:Value}(h:FRep w P f v)(e:∀k,P k→Q k):FRep w Q f v:=by
 obtain⟨na,nc,h1,h2,h3⟩:=h;exact⟨na,nc,h1,h2.sub e,h3⟩
theorem aBE.mono{w w':World}{P:Nat→Prop}{f:List F}{v:Option Addr}(h:aBE w P f v)(e:∀k,P k→w'.heap[k]?=w.heap[k]?):aBE w' P f v:=by
 obtain⟨h0,C,h1,h2⟩:=h;exact⟨h0,C,h1.mono e,fun i hi=>(h2 i hi).mono e⟩
theorem aBE.sub{w:World}{P Q:Nat→Prop}{f:List F}{v:Option Addr}(h:aBE w P f v)(e:∀k,P k→Q k):aBE w Q f v:=by
 obtain⟨h0,C,h1,h2⟩:=h;exact⟨h0,C,h1.sub e,fun i hi=>(h2 i hi).sub e⟩
theorem TRep.mono{w w':World}{P:Nat→Prop}{t:T}{v:Value}(h:TRep w P t v)(e:∀k,P k→w'.heap[k]?=w.heap[k]?):TRep w' P t v:=by
 obtain⟨fa,fc,h1,h2,h3⟩:=h;exact⟨fa,fc,h1,h2.mono e,h3⟩
theorem TRep.sub{w:World}{P Q:Nat→Prop}{t:T}{v:Value}(h:TRep w P t v)(e:∀k,P k→Q k):TRep w Q t v:=by
 obtain⟨fa,fc,h1,h2,h3⟩:=h;exact⟨fa,fc,h1,h2.sub e,h3⟩
theorem aCP.mono{w w':World}{P:Nat→Prop}{f:List T}{v:Option Addr}(h:aCP w P f v)(e:∀k,P k→w'.heap[k]?=w.heap[k]?):aCP w' P f v:=by
 obtain⟨h0,C,h1,h2⟩:=h;exact⟨h0,C,h1.mono e,fun i hi=>(h2 i hi).mono e⟩
theorem aCP.sub{w:World}{P Q:Nat→Prop}{f:List T}{v:Option Addr}(h:aCP w P f v)(e:∀k,P k→Q k):aCP w Q f v:=by
 obtain⟨h0,C,h1,h2⟩:=h;exact⟨h0,C,h1.sub e,fun i hi=>(h2 i hi).sub e⟩
theorem PRep.mono{w w':World}{P:Nat→Prop}{t:Pt}{v:Value}(h:PRep w P t v)(e:∀k,P k→w'.heap[k]?=w.heap[k]?):PRep w' P t v:=by
 obtain⟨fa,fc,h1,h2,h3⟩:=h;exact⟨fa,fc,h1,h2.mono e,h3⟩
theorem PRep.sub{w:World}{P Q:Nat→Prop}{t:Pt}{v:Value}(h:PRep w P t v)(e:∀k,P k→Q k):PRep w Q t v:=by
 obtain⟨fa,fc,h1,h2,h3⟩:=h;exact⟨fa,fc,h1,h2.sub e,h3⟩
theorem FRep.under{w w':World}{B:Nat}{x:F}{v:Value}(h:FRep w (·<B) x v)(hb:Below B w w'):FRep w' (·<B) x v:=h.mono fun k hk=>hb.block k hk
theorem aBE.under{w w':World}{B:Nat}{x:List F}{v:Option Addr}(h:aBE w (·<B) x v)(hb:Below B w w'):aBE w' (·<B) x v:=h.mono fun k hk=>hb.block k hk
theorem TRep.under{w w':World}{B:Nat}{x:T}{v:Value}(h:TRep w (·<B) x v)(hb:Below B w w'):TRep w' (·<B) x v:=h.mono fun k hk=>hb.block k hk
theorem aCP.under{w w':World}{B:Nat}{x:List T}{v:Option Addr}(h:aCP w (·<B) x v)(hb:Below B w w'):aCP w' (·<B) x v:=h.mono fun k hk=>hb.block k hk
theorem PRep.under{w w':World}{B:Nat}{x:Pt}{v:Value}(h:PRep w (·<B) x v)(hb:Below B w w'):PRep w' (·<B) x v:=h.mono fun k hk=>hb.block k hk
def szF(f:F):Nat:=f.name.size+f.of.size+szNs f.needs
def aBC(fs:List F)(n:Nat):Nat:=((List.range n).map fun i=>szF (fth fs i)).sum
theorem aC1(fs:List F)(n:Nat):aBC fs (n+1)=aBC fs n+szF (fth fs n):=by simp[aBC,List.range_succ]
def szFs(fs:List F):Nat:=fs.length+aBC fs fs.length
def szT(t:T):Nat:=t.name.size+t.key.size+szFs t.fields
def aB8(ts:List T)(n:Nat):Nat:=((List.range n).map fun i=>szT (tth ts i)).sum
theorem aBM(ts:List T)(n:Nat):aB8 ts (n+1)=aB8 ts n+szT (tth ts n):=by simp[aB8,List.range_succ]
def szTs(ts:List T):Nat:=ts.length+aB8 ts ts.length
def szP(p:Pt):Nat:=p.name.size+szTs p.types
set_option maxHeartbeats 400000 in
theorem aN8(f:F)(w:World)(B:Nat)(v:Value)(left:Int)(hR:FRep w (·<B) f v)(hB:B≤w.heap.size)(hl0:0≤left)(hl1:left≤1048576):
  Calls Tryz.prog 140 #[v,.int .i64 left] w fun e w'=>∃x:Int,e=.returned (.int .i64 x)∧-1≤x∧x≤left∧(0≤x→x+szF f≤left)∧Below w.heap.size w w':=by
 obtain⟨na,nc,rfl,hs,hnc,hn,ho,hb⟩:=hR
 obtain⟨name,of,l,m,fa,hi,sh,needs⟩:=f
 simp only at hs hnc hn ho hb
 unfold maxLen at hn ho
 by_cases h1:left<name.size
 ·go_enter Tryz.func140,Tryz.ntmps140
  go_wp2_with fail
  go_ret
  exact⟨-1,rfl,by omega,by omega,by omega,aA2 _ _⟩
 by_cases h2:left- name.size<of.size
 ·go_enter Tryz.func140,Tryz.ntmps140
  go_wp2_with fail
  go_ret
  exact⟨-1,rfl,by omega,by omega,by omega,aA2 _ _⟩
 go_enter Tryz.func140,Tryz.ntmps140
 go_wp2_with (go_at_call 168;refine(aL9 needs na nc _ (·<B) (hs.under ((aA2 w _).mono hB)) _ (by omega) (by omega)).mono ?_;rintro e w' ⟨y,rfl,hy0,hy1,hy2,rfl⟩)
 ·go_ret
  exact⟨-1,rfl,by omega,by omega,by omega,aA2 _ _⟩
 ·go_ret
  exact⟨y,rfl,by omega,by omega,fun h=>by have:=hy2 h;simp only[szF];omega,aA2 _ _⟩
set_option maxHeartbeats 400000 in
theorem aLT(fs:List F)(w:World)(B:Nat)(a:Option Addr)(c:Nat)(left:Int)(hK:aBE w (·<B) fs a)(hB:B≤w.heap.size)(hl0:0≤left)(hl1:left≤1048576):
  Calls Tryz.prog 99 #[.slice a fs.length c,.int .i64 left] w fun e w'=>∃x:Int,e=.returned (.int .i64 x)∧-1≤x∧x≤left∧(0≤x→x+szFs fs≤left)∧Below w.heap.size w w':=by
 obtain⟨h3,C,hA,hr⟩:=hK
 by_cases hbig:left<fs.length
 ·go_enter Tryz.func99,Tryz.ntmps99
  go_wp2_with fail
  go_ret
  exact⟨-1,rfl,by omega,by omega,by omega,Below.refl _ _⟩
 by_cases hn0:fs.length=0
 ·have hns:fs=[]:=by simpa using hn0
  subst hns
  go_enter Tryz.func99,Tryz.ntmps99
  go_wp2_with fail
  go_loop [1,5] (fun l i=>i=.int .i64 0∧l=.int .i64 left) (fun _ _=>0)
  case atStart=>exact⟨rfl,rfl⟩
  case round=>
   obtain⟨rfl,rfl⟩:=hrel
   go_wp2_with fail
   go_ret
   exact⟨left,rfl,by omega,by omega,by simp[szFs,aBC],Below.refl _ _⟩
 ·obtain⟨b,off,rfl,hbB,hc⟩:=hA (by omega)
  go_enter Tryz.func99,Tryz.ntmps99
  go_wp2_with fail
  go_loopw [1,5] (fun l i wr=>∃(k:Nat) (x:Int),k≤fs.length∧i=.int .i64 k∧l=.int .i64 x∧0≤x∧x≤left∧x+aBC fs k+fs.length≤left∧Below w.heap.size w wr) (fun _ i _=>fs.length- (intOf i).toNat)
  case atStart=>exact⟨0,_,Nat.zero_le _,rfl,rfl,by omega,by omega,by simp[aBC],Below.refl _ _⟩
  case round=>
   obtain⟨k,x,hk,rfl,rfl,hx0,hx1,hx2,hbel⟩:=hrel
   have HX:Hid (x+aBC fs k+fs.length≤left):=hx2
   clear hx2
   by_cases hlt:k<fs.length
   ·have hck:∀j,j<8→wr.cell? ⟨b,off+k*8+j,none⟩=some (C k j):=fun j hj=>(hbel.cell (p:=⟨b,off+k*8+j,none⟩) (by show b<_;omega)).trans (hc k hlt j hj)
    have hc0:wr.cell? ⟨b,off+k*8,none⟩=some (C k 0):=hck 0 (by omega)
    have hc1:=hck 1 (by omega)
    have hc2:=hck 2 (by omega)
    have hc3:=hck 3 (by omega)
    have hc4:=hck 4 (by omega)
    have hc5:=hck 5 (by omega)
    have hc6:=hck 6 (by omega)
    have hc7:=hck 7 (by omega)
    clear hck hc
    go_wp2_with (go_at_call 140;refine(aN8 _ _ B _ x ((hr k hlt).under (hbel.mono hB)) (by have:=hbel.size;omega) hx0 (by omega)).mono ?_;rintro e w' ⟨y,rfl,hy0,hy1,hy2,hby⟩)
    ·go_ret
     exact⟨-1,rfl,by omega,by omega,by omega,hbel.trans (hby.mono hbel.size)⟩
    ·go_roundw
     case rel=>exact⟨k+1,y,by omega,by go_num,rfl,by assumption,by omega,by have:=HX.out;have:=hy2 (by assumption);rw[aC1];omega,hbel.trans (hby.mono hbel.size)⟩
     case measure=>simp[intOf];omega
   ·go_wp2_with fail
    go_ret
    have e:k=fs.length:=by omega
    exact⟨x,rfl,by omega,by omega,fun _=>by have:=HX.out;rw[szFs];rw[e] at this;omega,hbel⟩
set_option maxHeartbeats 400000 in
theorem aPM(t:T)(w:World)(B:Nat)(v:Value)(left:Int)(hR:TRep w (·<B) t v)(hB:B≤w.heap.size)(hl0:0≤left)(hl1:left≤1048576):
  Calls Tryz.prog 68 #[v,.int .i64 left] w fun e w'=>∃x:Int,e=.returned (.int .i64 x)∧-1≤x∧x≤left∧(0≤x→x+szT t≤left)∧Below w.heap.size w w':=by
 obtain⟨fa,fc,rfl,hs,hnc,hn,ho⟩:=hR
 obtain⟨name,key,fields⟩:=t
 simp only at hs hnc hn ho
 unfold maxLen at hn ho
 by_cases h1:left<name.size
 ·go_enter Tryz.func68,Tryz.ntmps68
  go_wp2_with fail
  go_ret
  exact⟨-1,rfl,by omega,by omega,by omega,aA2 _ _⟩
 by_cases h2:left- name.size<key.size
 ·go_enter Tryz.func68,Tryz.ntmps68
  go_wp2_with fail
  go_ret
  exact⟨-1,rfl,by omega,by omega,by omega,aA2 _ _⟩
 go_enter Tryz.func68,Tryz.ntmps68
 go_wp2_with (go_at_call 99;refine(aLT fields _ B fa fc _ (hs.under ((aA2 w _).mono hB)) (by simp;omega) (by omega) (by omega)).mono ?_;rintro e w' ⟨y,rfl,hy0,hy1,hy2,hb⟩)
 ·go_ret
  exact⟨-1,rfl,by omega,by omega,by omega,(aA2 w _).trans (hb.mono (by simp))⟩
 ·go_ret
  exact⟨y,rfl,by omega,by omega,fun h=>by have:=hy2 h;simp only[szT];omega,(aA2 w _).trans (hb.mono (by simp))⟩
set_option maxHeartbeats 400000 in
theorem aNM(ts:List T)(w:World)(B:Nat)(a:Option Addr)(c:Nat)(left:Int)(hK:aCP w (·<B) ts a)(hB:B≤w.heap.size)(hl0:0≤left)(hl1:left≤1048576):
  Calls Tryz.prog 46 #[.slice a ts.length c,.int .i64 left] w fun e w'=>∃x:Int,e=.returned (.int .i64 x)∧-1≤x∧x≤left∧(0≤x→x+szTs ts≤left)∧Below w.heap.size w w':=by
 obtain⟨h3,C,hA,hr⟩:=hK
 by_cases hbig:left<ts.length
 ·go_enter Tryz.func46,Tryz.ntmps46
  go_wp2_with fail
  go_ret
  exact⟨-1,rfl,by omega,by omega,by omega,Below.refl _ _⟩
 by_cases hn0:ts.length=0
 ·have hns:ts=[]:=by simpa using hn0
  subst hns
  go_enter Tryz.func46,Tryz.ntmps46
  go_wp2_with fail
  go_loop [1,5] (fun l i=>i=.int .i64 0∧l=.int .i64 left) (fun _ _=>0)
  case atStart=>exact⟨rfl,rfl⟩
  case round=>
   obtain⟨rfl,rfl⟩:=hrel
   go_wp2_with fail
   go_ret
   exact⟨left,rfl,by omega,by omega,by simp[szTs,aB8],Below.refl _ _⟩
 ·obtain⟨b,off,rfl,hbB,hc⟩:=hA (by omega)
  go_enter Tryz.func46,Tryz.ntmps46
  go_wp2_with fail
  go_loopw [1,5] (fun l i wr=>∃(k:Nat) (x:Int),k≤ts.length∧i=.int .i64 k∧l=.int .i64 x∧0≤x∧x≤left∧x+aB8 ts k+ts.length≤left∧Below w.heap.size w wr) (fun _ i _=>ts.length- (intOf i).toNat)
  case atStart=>exact⟨0,_,Nat.zero_le _,rfl,rfl,by omega,by omega,by simp[aB8],Below.refl _ _⟩
  case round=>
   obtain⟨k,x,hk,rfl,rfl,hx0,hx1,hx2,hbel⟩:=hrel
   have HX:Hid (x+aB8 ts k+ts.length≤left):=hx2
   clear hx2
   by_cases hlt:k<ts.length
   ·have hck:∀j,j<3→wr.cell? ⟨b,off+k*3+j,none⟩=some (C k j):=fun j hj=>(hbel.cell (p:=⟨b,off+k*3+j,none⟩) (by show b<_;omega)).trans (hc k hlt j hj)
    have hc0:wr.cell? ⟨b,off+k*3,none⟩=some (C k 0):=hck 0 (by omega)
    have hc1:=hck 1 (by omega)
    have hc2:=hck 2 (by omega)
    clear hck hc
    go_wp2_with (go_at_call 68;refine(aPM _ _ B _ x ((hr k hlt).under (hbel.mono hB)) (by have:=hbel.size;omega) hx0 (by omega)).mono ?_;rintro e w' ⟨y,rfl,hy0,hy1,hy2,hby⟩)
    ·go_ret
     exact⟨-1,rfl,by omega,by omega,by omega,hbel.trans (hby.mono hbel.size)⟩
    ·go_roundw
     case rel=>exact⟨k+1,y,by omega,by go_num,rfl,by assumption,by omega,by have:=HX.out;have:=hy2 (by assumption);rw[aBM];omega,hbel.trans (hby.mono hbel.size)⟩
     case measure=>simp[intOf];omega
   ·go_wp2_with fail
    go_ret
    have e:k=ts.length:=by omega
    exact⟨x,rfl,by omega,by omega,fun _=>by have:=HX.out;rw[szTs];rw[e] at this;omega,hbel⟩
set_option maxHeartbeats 400000 in
theorem aQ0(p:Pt)(w:World)(B:Nat)(v:Value)(left:Int)(hR:PRep w (·<B) p v)(hB:B≤w.heap.size)(hl0:0≤left)(hl1:left≤1048576):
  Calls Tryz.prog 25 #[v,.int .i64 left] w fun e w'=>∃x:Int,e=.returned (.int .i64 x)∧-1≤x∧x≤left∧(0≤x→x+szP p≤left)∧Below w.heap.size w w':=by
 obtain⟨fa,fc,rfl,hs,hnc,hn⟩:=hR
 obtain⟨name,types⟩:=p
 simp only at hs hnc hn
 unfold maxLen at hn
 by_cases h1:left<name.size
 ·go_enter Tryz.func25,Tryz.ntmps25
  go_wp2_with fail
  go_ret
  exact⟨-1,rfl,by omega,by omega,by omega,aA2 _ _⟩
 go_enter Tryz.func25,Tryz.ntmps25
 go_wp2_with (go_at_call 46;refine(aNM types _ B fa fc _ (hs.under ((aA2 w _).mono hB)) (by simp;omega) (by omega) (by omega)).mono ?_;rintro e w' ⟨y,rfl,hy0,hy1,hy2,hb⟩)
 ·go_ret
  exact⟨-1,rfl,by omega,by omega,by omega,(aA2 w _).trans (hb.mono (by simp))⟩
 ·go_ret
  exact⟨y,rfl,by omega,by omega,fun h=>by have:=hy2 h;simp only[szP];omega,(aA2 w _).trans (hb.mono (by simp))⟩
theorem aUB{w w1:World}{f:F}{x:Value}{N:Nat}(hN:N=w.heap.size)(hbw:Below N w w1)(hsz1:w1.heap.size=N+1+1+1+1)
  (hst1:Strs w1 (·=N+1+1+1) f.needs (some ⟨N+1+1+1,0,none⟩)) (h1:f.name.size≤maxLen) (h2:f.of.size≤maxLen) (hbs:16*f.needs.length≤281474976710656) (cs:List Value):
  Below N w (puts (w1.setCell ⟨N+1+1,7,none⟩ x) (N+1) 0 cs)∧
  FRep (puts (w1.setCell ⟨N+1+1,7,none⟩ x) (N+1) 0 cs) (fun b=>N≤b∧b<(puts (w1.setCell ⟨N+1+1,7,none⟩ x) (N+1) 0 cs).heap.size) f
   (.agg #[.string f.name,.string f.of,.bool f.list,.bool f.must,.bool f.far,.bool f.hidden,.bool f.shared,.slice (some ⟨N+1+1+1,0,none⟩) f.needs.length f.needs.length]):=by
 have hsz:(puts (w1.setCell ⟨N+1+1,7,none⟩ x) (N+1) 0 cs).heap.size=w1.heap.size:=by rw[aCB,aBQ]
 refine⟨aC4 (by omega) _ _ _ (hbw.setCell (by show N≤N+1+1;omega) _),_,_,rfl,(hst1.mono fun k hk=>?_).sub fun k hk=>?_,Nat.le_refl _,h1,h2,hbs⟩
 ·rw[aC6 _ _ (by omega),Below.heap_setCell _ _ _ _ (by show k≠N+1+1;omega)]
 ·rw[hsz];omega
theorem aPF:(Tryz.prog.info? 80).map (fun i=>(i.zero,i.size,i.bytes))=some (some (.agg #[.string ByteArray.empty,.string ByteArray.empty,.bool false,.bool false,.bool false,.bool false,.bool false,.slice none 0 0]),8,64):=by kernel_rfl
theorem aUC{w w1:World}{t:T}{x:Value}{N:Nat}(hN:N=w.heap.size)(hbw:Below N w w1)(hsz1:N+1+1+1<w1.heap.size)
  (hst1:aBE w1 (fun b=>N+1+1+1≤b∧b<w1.heap.size) t.fields (some ⟨N+1+1+1,0,none⟩)) (h1:t.name.size≤maxLen) (h2:t.key.size≤maxLen) (cs:List Value):
  Below N w (puts (w1.setCell ⟨N+1+1,2,none⟩ x) (N+1) 0 cs)∧
  TRep (puts (w1.setCell ⟨N+1+1,2,none⟩ x) (N+1) 0 cs) (fun b=>N≤b∧b<(puts (w1.setCell ⟨N+1+1,2,none⟩ x) (N+1) 0 cs).heap.size) t
   (.agg #[.string t.name,.string t.key,.slice (some ⟨N+1+1+1,0,none⟩) t.fields.length t.fields.length]):=by
 have hsz:(puts (w1.setCell ⟨N+1+1,2,none⟩ x) (N+1) 0 cs).heap.size=w1.heap.size:=by rw[aCB,aBQ]
 refine⟨aC4 (by omega) _ _ _ (hbw.setCell (by show N≤N+1+1;omega) _),_,_,rfl,(hst1.mono fun k hk=>?_).sub fun k hk=>?_,Nat.le_refl _,h1,h2⟩
 ·rw[aC6 _ _ (by omega),Below.heap_setCell _ _ _ _ (by show k≠N+1+1;omega)]
 ·rw[hsz];omega
theorem aR2:(Tryz.prog.info? 96).map (fun i=>(i.zero,i.size,i.bytes))=some (some (.agg #[.string ByteArray.empty,.string ByteArray.empty,.slice none 0 0]),3,56):=by kernel_rfl
theorem aUE{w w1:World}{p:Pt}{x:Value}{N:Nat}(hN:N=w.heap.size)(hbw:Below N w w1)(hsz1:N+1+1+1<w1.heap.size)
  (hst1:aCP w1 (fun b=>N+1+1+1≤b∧b<w1.heap.size) p.types (some ⟨N+1+1+1,0,none⟩)) (h1:p.name.size≤maxLen) (cs:List Value):
  Below N w (puts (w1.setCell ⟨N+1+1,1,none⟩ x) (N+1) 0 cs)∧
  PRep (puts (w1.setCell ⟨N+1+1,1,none⟩ x) (N+1) 0 cs) (fun b=>N≤b∧b<(puts (w1.setCell ⟨N+1+1,1,none⟩ x) (N+1) 0 cs).heap.size) p
   (.agg #[.string p.name,.slice (some ⟨N+1+1+1,0,none⟩) p.types.length p.types.length]):=by
 have hsz:(puts (w1.setCell ⟨N+1+1,1,none⟩ x) (N+1) 0 cs).heap.size=w1.heap.size:=by rw[aCB,aBQ]
 refine⟨aC4 (by omega) _ _ _ (hbw.setCell (by show N≤N+1+1;omega) _),_,_,rfl,(hst1.mono fun k hk=>?_).sub fun k hk=>?_,Nat.le_refl _,h1⟩
 ·rw[aC6 _ _ (by omega),Below.heap_setCell _ _ _ _ (by show k≠N+1+1;omega)]
 ·rw[hsz];omega
structure aAM(lo hi:Nat)(w w':World):Prop where
 os:w'.os=w.os
 tape:w'.tape=w.tape
 output:w'.output=w.output
 size:w.heap.size≤w'.heap.size
 block:∀b,b<w.heap.size→¬(lo≤b∧b<hi)→w'.heap[b]?=w.heap[b]?
 text:∀a s,w.cell? a=some (.string s)→∃s',w'.cell? a=some (.string s')
 flag:∀a s,w.cell? a=some (.bool s)→∃s',w'.cell? a=some (.bool s')
 list:∀a x n c,w.cell? a=some (.slice x n c)→w'.cell? a=some (.slice x n c)
 frozen:∀a,a.block<w.heap.size→w'.frozen? a=w.frozen? a
theorem aCG{w:World}{t:Addr}{old:Value}(h:w.cell? t=some old):t.block<w.heap.size:=by
 rcases Nat.lt_or_ge t.block w.heap.size with h1| h1
 ·exact h1
 ·simp[World.cell?,Array.getElem?_eq_none h1] at h
theorem aAM.refl(lo hi:Nat)(w:World):aAM lo hi w w:=
 ⟨rfl,rfl,rfl,Nat.le_refl _,fun _ _ _=>rfl,fun _ s h=>⟨s,h⟩,fun _ s h=>⟨s,h⟩,fun _ _ _ _ h=>h,fun _ _=>rfl⟩
theorem aAM.trans{lo hi:Nat}{a b c:World}(h:aAM lo hi a b)(k:aAM lo hi b c):aAM lo hi a c:=
 ⟨k.os.trans h.os,k.tape.trans h.tape,k.output.trans h.output,Nat.le_trans h.size k.size,
  fun i hi hn=>(k.block i (Nat.lt_of_lt_of_le hi h.size) hn).trans (h.block i hi hn),
  fun a s e=>by obtain⟨s',e'⟩:=h.text a s e;exact k.text a s' e',
  fun a s e=>by obtain⟨s',e'⟩:=h.flag a s e;exact k.flag a s' e',
  fun a x n c e=>k.list a x n c (h.list a x n c e),fun a ha=>(k.frozen a (Nat.lt_of_lt_of_le ha h.size)).trans (h.frozen a ha)⟩
theorem aAM.of_below{w w':World}(lo hi:Nat)(h:Below w.heap.size w w'):aAM lo hi w w':=
 ⟨h.os,h.tape,h.output,h.size,fun b hb _=>h.block b hb,fun a s e=>⟨s,(h.cell (aCG e)).trans e⟩,fun a s e=>⟨s,(h.cell (aCG e)).trans e⟩,
  fun a x n c e=>(h.cell (aCG e)).trans e,fun a ha=>h.frozen ha⟩
theorem aAM.set_text{w:World}{lo hi:Nat}{p:Addr}{s:ByteArray}(h:w.cell? p=some (.string s))(h1:lo≤p.block)(h2:p.block<hi)(t:ByteArray):aAM lo hi w (w.setCell p (.string t)):=by
 refine⟨rfl,rfl,rfl,by rw[aBQ];exact Nat.le_refl _,fun b hb hn=>Below.heap_setCell _ _ _ _ (by intro e;exact hn (by rw[e];exact⟨h1,h2⟩)),fun a u e=>?_,fun a u e=>?_,fun a x n c e=>?_,fun a ha=>by simp⟩
 ·by_cases hp:p=a
  ·subst hp;exact⟨t,World.cell?_setCell_same _ _ _ h⟩
  ·exact⟨u,(World.cell?_setCell_other _ _ _ _ hp).trans e⟩
 ·have hp:p≠a:=by intro hp;rw[hp,e] at h;cases h
  exact⟨u,(World.cell?_setCell_other _ _ _ _ hp).trans e⟩
 ·have hp:p≠a:=by intro hp;rw[hp,e] at h;cases h
  exact(World.cell?_setCell_other _ _ _ _ hp).trans e
theorem aAM.set_flag{w:World}{lo hi:Nat}{p:Addr}{s:Bool}(h:w.cell? p=some (.bool s))(h1:lo≤p.block)(h2:p.block<hi)(t:Bool):aAM lo hi w (w.setCell p (.bool t)):=by
 refine⟨rfl,rfl,rfl,by rw[aBQ];exact Nat.le_refl _,fun b hb hn=>Below.heap_setCell _ _ _ _ (by intro e;exact hn (by rw[e];exact⟨h1,h2⟩)),fun a u e=>?_,fun a u e=>?_,fun a x n c e=>?_,fun a ha=>by simp⟩
 ·have hp:p≠a:=by intro hp;rw[hp,e] at h;cases h
  exact⟨u,(World.cell?_setCell_other _ _ _ _ hp).trans e⟩
 ·by_cases hp:p=a
  ·subst hp;exact⟨t,World.cell?_setCell_same _ _ _ h⟩
  ·exact⟨u,(World.cell?_setCell_other _ _ _ _ hp).trans e⟩
 ·have hp:p≠a:=by intro hp;rw[hp,e] at h;cases h
  exact(World.cell?_setCell_other _ _ _ _ hp).trans e
def aDM(w:World)(a:Addr):Prop:=(∃s,w.cell? a=some (.string s))∧w.frozen? a=false
def aE2(w:World)(a:Addr):Prop:=(∃s,w.cell? a=some (.bool s))∧w.frozen? a=false
theorem aDM.keep{lo hi:Nat}{w w':World}{a:Addr}(h:aDM w a)(m:aAM lo hi w w'):aDM w' a:=by
 obtain⟨⟨s,e⟩,f⟩:=h
 exact⟨m.text a s e,(m.frozen a (aCG e)).trans f⟩
theorem aE2.keep{lo hi:Nat}{w w':World}{a:Addr}(h:aE2 w a)(m:aAM lo hi w w'):aE2 w' a:=by
 obtain⟨⟨s,e⟩,f⟩:=h
 exact⟨m.flag a s e,(m.frozen a (aCG e)).trans f⟩
def aFV(w:World)(lo hi n:Nat)(a:Option Addr):Prop:=0<n→∃b off,a=some ⟨b,off,none⟩∧lo≤b∧b<hi∧∀i,i<n→aDM w ⟨b,off+i,none⟩
theorem aFV.keep{lo hi lo' hi' n:Nat}{w w':World}{a:Option Addr}(h:aFV w lo hi n a)(m:aAM lo' hi' w w'):aFV w' lo hi n a:=fun hn=>by
 obtain⟨b,off,e,h1,h2,hc⟩:=h hn
 exact⟨b,off,e,h1,h2,fun i hi=>(hc i hi).keep m⟩
set_option maxRecDepth 20000 in
set_option maxHeartbeats 1600000 in
theorem aF8(n c k lo hi:Nat)(a:Option Addr)(w:World)(hw:aFV w lo hi n a)(hn:n≤1048576)(hk:k≤1000000000000):
  Calls Tryz.prog 19 #[.slice a n c,.int .i64 k] w fun e w'=>e=.returned (.int .i64 ((k+n:Nat):Int))∧aAM lo hi w w'∧(∀b off,a=some ⟨b,off,none⟩→∀i,i<n→w'.cell? ⟨b,off+i,none⟩=some (.string (aEI (k+i)))):=by
 go_enter Tryz.func19,Tryz.ntmps19
 go_wp2_with fail
 go_loopw [1,5] (fun kk i wr=>∃j:Nat,j≤n∧kk=.int .i64 ((k+j:Nat):Int)∧i=.int .i64 j∧aAM lo hi w wr∧(∀b off,a=some ⟨b,off,none⟩→∀i,i<j→wr.cell? ⟨b,off+i,none⟩=some (.string (aEI (k+i))))) (fun _ i _=>n- (intOf i).toNat)
 case atStart=>exact⟨0,Nat.zero_le _,rfl,rfl,aAM.refl _ _ _,fun _ _ _ i hi=>by omega⟩
 case round=>
  obtain⟨j,hj,rfl,rfl,hm,hc⟩:=hrel
  obtain⟨w0,rfl⟩:∃x,x=wr:=⟨wr,rfl⟩
  by_cases hlt:j<n
  ·obtain⟨b,off,rfl,h1,h2,hcc⟩:=hw (by omega)
   have HC:Hid (∀i,i<j→w0.cell? ⟨b,off+i,none⟩=some (.string (aEI (k+i)))):=fun i hi=>hc b off rfl i hi
   have HT:Hid (aDM w0 ⟨b,off+j,none⟩):=(hcc j hlt).keep hm
   have hM:=aF3 (k+j) w0 (by omega)
   clear hc hcc
   have hji:(j:Int)<(n:Int):=by omega
   go_wp2_with (
    go_at_call 35
    refine hM.mono ?_
    rintro e w1 ⟨rfl,hb1⟩
    have hm1:=aAM.of_below lo hi hb1
    obtain⟨⟨s,ht⟩,hf⟩:=HT.out.keep hm1)
   go_roundw
   case rel=>
    refine⟨j+1,by omega,by go_num,by go_num,(hm.trans hm1).trans (aAM.set_text ht h1 h2 _),fun b' off' he i hi=>?_⟩
    simp only[Option.some.injEq,Addr.mk.injEq,and_true] at he
    obtain⟨rfl,rfl⟩:=he
    by_cases hij:i=j
    ·subst hij;exact World.cell?_setCell_same _ _ _ ht
    ·rw[World.cell?_setCell_other _ _ _ _ (by intro e;simp only[Addr.mk.injEq] at e;omega)]
     have hx:=HC.out i (by omega)
     exact(hb1.cell (aCG hx)).trans hx
   case measure=>simp[intOf];omega
  ·go_wp2_with fail
   go_ret
   have e:j=n:=by omega
   exact⟨by rw[e];rfl,hm,by rw[←e];exact hc⟩
set_option maxRecDepth 20000 in
set_option maxHeartbeats 1600000 in
theorem aJQ(n c k:Nat)(a:Option Addr)(w:World)(ha:0<n→∃b off,a=some ⟨b,off,none⟩∧∀i,i<n→w.cell? ⟨b,off+i,none⟩=some (.string (aEI (k+i))))(hn:n≤1048576)(hk:k≤1000000000000):
  Calls Tryz.prog 20 #[.slice a n c,.int .i64 k] w fun e w'=>e=.returned (.int .i64 ((k+n:Nat):Int))∧Below w.heap.size w w':=by
 go_enter Tryz.func20,Tryz.ntmps20
 go_wp2_with fail
 go_loopw [1,5] (fun kk i wr=>∃j:Nat,j≤n∧kk=.int .i64 ((k+j:Nat):Int)∧i=.int .i64 j∧Below w.heap.size w wr) (fun _ i _=>n- (intOf i).toNat)
 case atStart=>exact⟨0,Nat.zero_le _,rfl,rfl,Below.refl _ _⟩
 case round=>
  obtain⟨j,hj,rfl,rfl,hb⟩:=hrel
  obtain⟨w0,rfl⟩:∃x,x=wr:=⟨wr,rfl⟩
  by_cases hlt:j<n
  ·obtain⟨b,off,rfl,hcc⟩:=ha (by omega)
   have hx:=hcc j hlt
   have hbl:=aCG hx
   have c0:=(hb.cell hbl).trans hx
   have hM:=aF3 (k+j) w0.drew (by omega)
   have hji:(j:Int)<(n:Int):=by omega
   have hz:=hb.size
   clear hcc
   generalize aEI (k+j)=mt at hx c0 hM
   go_wp2_with fail
   go_region_held3 (fun w'=>w'.cell? ⟨b,off+j,none⟩=some (.string mt)) (go_keep)
    (first
     |(
      go_at_call 35
      refine hM.mono ?_
      rintro e w1 ⟨rfl,hb1⟩
      have hb1':=aAF hb1
      have hw1:=hb.trans (hb1'.mono hz)
      have c1:=(hw1.cell hbl).trans hx))
   go_wp2_with fail
   go_roundw
   case rel=>exact⟨j+1,by omega,by go_num,by go_num,hw1⟩
   case measure=>simp[intOf];omega
  ·go_wp2_with fail
   go_ret
   have e:j=n:=by omega
   exact⟨by rw[e];rfl,hb⟩
theorem aAM.set_flags{lo hi b:Nat}(h1:lo≤b)(h2:b<hi):∀(ps:List (Nat× Bool)) {w W:World},aAM lo hi w W→(∀p∈ ps,aE2 W ⟨b,p.1,none⟩)→aAM lo hi w (ps.foldl (fun W p=>W.setCell ⟨b,p.1,none⟩ (.bool p.2)) W)
 |[],w,W,m,_=>m
 |p::ps,w,W,m,h=>by
  obtain⟨⟨v,hv⟩,hf⟩:=h p (List.mem_cons_self ..)
  have m1:=aAM.set_flag (lo:=lo) (hi:=hi) hv h1 h2 p.2
  exact aAM.set_flags h1 h2 ps (m.trans m1) (fun q hq=>(h q (List.mem_cons_of_mem _ hq)).keep m1)
theorem aD5(t:Int)(w:World)(h0:0≤t)(h1:t≤1000000000000000):
  Calls Tryz.prog 35 #[.int .i64 t] w fun e w'=>e=.returned (.string (aEI t.toNat))∧Below w.heap.size w w':=by
 have h:=aF3 t.toNat w (by omega)
 rw[show((t.toNat:Nat):Int)=t by omega] at h
 exact h
theorem aJ5(n c:Nat)(t:Int)(lo hi:Nat)(a:Option Addr)(w:World)(hw:aFV w lo hi n a)(hn:n≤1048576)(h0:0≤t)(h1:t≤1000000000000):
  Calls Tryz.prog 19 #[.slice a n c,.int .i64 t] w fun e w'=>e=.returned (.int .i64 (t+n))∧aAM lo hi w w':=by
 have h:=aF8 n c t.toNat lo hi a w hw hn (by omega)
 rw[show((t.toNat:Nat):Int)=t by omega,show(((t.toNat+n:Nat)):Int)=t+n by omega] at h
 exact h.mono fun e w' ⟨x,y,_⟩=>⟨x,y⟩
def WFs(w:World)(lo hi:Nat)(fs:List F)(a:Option Addr):Prop:=0<fs.length→∃b off,a=some ⟨b,off,none⟩∧lo≤b∧b<hi∧∀i,i<fs.length→
 aDM w ⟨b,off+i*8,none⟩∧aDM w ⟨b,off+i*8+1,none⟩∧aE2 w ⟨b,off+i*8+2,none⟩∧aE2 w ⟨b,off+i*8+3,none⟩∧aE2 w ⟨b,off+i*8+4,none⟩∧aE2 w ⟨b,off+i*8+5,none⟩∧aE2 w ⟨b,off+i*8+6,none⟩∧
 ∃na nc,w.cell? ⟨b,off+i*8+7,none⟩=some (.slice na (fth fs i).needs.length nc)∧aFV w lo hi (fth fs i).needs.length na
theorem WFs.keep{lo hi lo' hi':Nat}{fs:List F}{w w':World}{a:Option Addr}(h:WFs w lo hi fs a)(m:aAM lo' hi' w w'):WFs w' lo hi fs a:=fun hn=>by
 obtain⟨b,off,e,h1,h2,hc⟩:=h hn
 refine⟨b,off,e,h1,h2,fun i hi=>?_⟩
 obtain⟨x0,x1,x2,x3,x4,x5,x6,na,nc,x7,x8⟩:=hc i hi
 exact⟨x0.keep m,x1.keep m,x2.keep m,x3.keep m,x4.keep m,x5.keep m,x6.keep m,na,nc,m.list _ _ _ _ x7,x8.keep m⟩
def mFs(fs:List F):Nat→Nat
 |0=>0
 |n+1=>mFs fs n+7+(fth fs n).needs.length
set_option maxRecDepth 20000 in
set_option maxHeartbeats 3200000 in
theorem aJZ(fs:List F)(c k lo hi:Nat)(a:Option Addr)(w:World)(hw:WFs w lo hi fs a)(hl:fs.length≤1048576)(hn:∀i,(fth fs i).needs.length≤1048576)(hk:∀i,i≤fs.length→k+mFs fs i≤1000000000000):
  Calls Tryz.prog 61 #[.slice a fs.length c,.int .i64 k] w fun e w'=>e=.returned (.int .i64 ((k+mFs fs fs.length:Nat):Int))∧aAM lo hi w w':=by
 go_enter Tryz.func61,Tryz.ntmps61
 go_wp2_with fail
 go_loopw [1,5] (fun kk i wr=>∃j:Nat,j≤fs.length∧kk=.int .i64 ((k+mFs fs j:Nat):Int)∧i=.int .i64 j∧aAM lo hi w wr) (fun _ i _=>fs.length- (intOf i).toNat)
 case atStart=>exact⟨0,Nat.zero_le _,rfl,rfl,aAM.refl _ _ _⟩
 case round=>
  obtain⟨j,hj,rfl,rfl,hm⟩:=hrel
  obtain⟨w0,rfl⟩:∃x,x=wr:=⟨wr,rfl⟩
  by_cases hlt:j<fs.length
  ·obtain⟨b,off,rfl,h1,h2,hcc⟩:=(hw.keep hm) (by omega)
   obtain⟨x0,x1,x2,x3,x4,x5,x6,na,nc,x7,x8⟩:=hcc j hlt
   clear hcc
   have hji:(j:Int)<(fs.length:Int):=by omega
   have hkj:=hk (j+1) (by omega)
   have HK:Hid (mFs fs (j+1)=mFs fs j+7+(fth fs j).needs.length):=rfl
   rw[HK.out] at hkj
   generalize mFs fs j=mj at hkj HK
   obtain⟨K,hKe⟩:∃K:Int,K=((k+mj:Nat):Int):=⟨_,rfl⟩
   have hK0:0≤K:=by omega
   have hK1:K+7+(fth fs j).needs.length≤1000000000000:=by omega
   have HKE:Hid (K=((k+mj:Nat):Int)):=hKe
   rw[←hKe]
   clear hKe
   have hB1:Hid (lo≤b∧b<hi):=⟨h1,h2⟩
   have HX:Hid (aDM w0 ⟨b,off+j*8,none⟩∧aDM w0 ⟨b,off+j*8+1,none⟩∧aE2 w0 ⟨b,off+j*8+2,none⟩∧aE2 w0 ⟨b,off+j*8+3,none⟩∧aE2 w0 ⟨b,off+j*8+4,none⟩∧aE2 w0 ⟨b,off+j*8+5,none⟩∧aE2 w0 ⟨b,off+j*8+6,none⟩∧w0.cell? ⟨b,off+j*8+7,none⟩=some (.slice na (fth fs j).needs.length nc)∧aFV w0 lo hi (fth fs j).needs.length na):=⟨x0,x1,x2,x3,x4,x5,x6,x7,x8⟩
   clear x0 x1 x2 x3 x4 x5 x6 x7 x8 h1 h2
   go_wp2_with fail
   refine(aD5 K w0 hK0 (by omega)).mono ?_
   rintro e w1 ⟨rfl,hb1⟩
   have m1:=aAM.of_below lo hi hb1
   obtain⟨⟨s0,t0⟩,f0⟩:=HX.out.1.keep m1
   have m1':=m1.trans (aAM.set_text t0 hB1.out.1 hB1.out.2 (aEI K.toNat))
   generalize aEI K.toNat=mt0 at m1' ⊢
   go_wp2_with fail
   obtain⟨W1,hW1⟩:∃W,W=w1.setCell ⟨b,off+j*8,none⟩ (.string mt0):=⟨_,rfl⟩
   rw[←hW1] at m1' ⊢
   clear hW1 t0 f0 m1 hb1
   refine(aD5 (K+1) W1 (by omega) (by omega)).mono ?_
   rintro e w2 ⟨rfl,hb2⟩
   have m2:=m1'.trans (aAM.of_below lo hi hb2)
   obtain⟨⟨s1,t1⟩,f1⟩:=HX.out.2.1.keep m2
   generalize aEI (K+1).toNat=mt1
   have m3:=m2.trans (aAM.set_text t1 hB1.out.1 hB1.out.2 mt1)
   obtain⟨W2,hW2⟩:∃W,W=w2.setCell ⟨b,off+j*8+1,none⟩ (.string mt1):=⟨_,rfl⟩
   rw[←hW2] at m3
   obtain⟨⟨v2,q2⟩,g2⟩:=HX.out.2.2.1.keep m3
   obtain⟨⟨v3,q3⟩,g3⟩:=HX.out.2.2.2.1.keep m3
   obtain⟨⟨v4,q4⟩,g4⟩:=HX.out.2.2.2.2.1.keep m3
   obtain⟨⟨v5,q5⟩,g5⟩:=HX.out.2.2.2.2.2.1.keep m3
   obtain⟨⟨v6,q6⟩,g6⟩:=HX.out.2.2.2.2.2.2.1.keep m3
   have q7:=m3.list _ _ _ _ HX.out.2.2.2.2.2.2.2.1
   rw[hW2] at q2 q3 q4 q5 q6 q7 g2 g3 g4 g5 g6
   have m4:=aAM.set_flags hB1.out.1 hB1.out.2 [(off+j*8+2,(K+1+1) % 3==0),(off+j*8+3,(K+1+1+1) % 3==0),(off+j*8+4,(K+1+1+1+1) % 3==0),(off+j*8+5,(K+1+1+1+1+1) % 3==0),(off+j*8+6,(K+1+1+1+1+1+1) % 3==0)] m3 (fun p hp=>by
    simp only[List.mem_cons,List.not_mem_nil,or_false] at hp
    rcases hp with rfl| rfl| rfl| rfl| rfl
    ·exact HX.out.2.2.1.keep m3
    ·exact HX.out.2.2.2.1.keep m3
    ·exact HX.out.2.2.2.2.1.keep m3
    ·exact HX.out.2.2.2.2.2.1.keep m3
    ·exact HX.out.2.2.2.2.2.2.1.keep m3)
   simp only[List.foldl_cons,List.foldl_nil,hW2] at m4
   have H8:Hid (aFV _ lo hi (fth fs j).needs.length na):=HX.out.2.2.2.2.2.2.2.2.keep m4
   clear m1' hb2 m2
   go_wp2_with fail
   refine(aJ5 (fth fs j).needs.length nc (K+1+1+1+1+1+1+1) lo hi na _ H8.out (hn j) (by omega) (by omega)).mono ?_
   rintro e w5 ⟨rfl,m5⟩
   have hfin:Hid (K+1+1+1+1+1+1+1+(fth fs j).needs.length=((k+mFs fs (j+1):Nat):Int)):=by show _=_;rw[HK.out,HKE.out];omega
   have m6:=hm.trans (m4.trans m5)
   clear q2 q3 q4 q5 q6 q7 g2 g3 g4 g5 g6 t1 f1 m3 m4 m5
   go_wp2_with fail
   go_roundw
   case rel=>exact⟨j+1,by omega,by rw[←hfin.out],by go_num,m6⟩
   case measure=>simp[intOf];omega
  ·go_wp2_with fail
   go_ret
   have e:j=fs.length:=by omega
   exact⟨by rw[e];rfl,hm⟩
end Go.Proofs.YtcebpkeiaiiphaaGreatDoor
namespace Go.Proofs.YtcebpkeiaiiphaaGreatDoor
open Go.RowKit Go.Deep Go.ChangeShapes
theorem Tryz.cells9:Tryz.prog.cellsOf 9=1:=by kernel_rfl
theorem Tryz.cells33:Tryz.prog.cellsOf 33=1:=by kernel_rfl
theorem Tryz.bytes9:Tryz.prog.bytesOf 9=16:=by kernel_rfl
theorem aIS(b off k:Nat):(⟨b,off,none⟩:Addr).add k=⟨b,off+k,none⟩:=by by_cases h:k=0<;>simp[Addr.add,h]
section
variable {H:Type} {enc:TypeId× Value→H} {w:World}
def aJ2(t:TypeId)(d:DataW H):Prop:=∀n∈ d.weights Tryz.prog t,n≤reachBytes
theorem aLV{e:TypeId}:∀{l:List (DataW H)} {d:DataW H},d∈ l→∀n∈ d.weights Tryz.prog e,n∈ DataW.weightsAll Tryz.prog e l
 |x::r,d,hd,n,hn=>by
  rw[DataW.weightsAll,List.mem_append]
  rcases List.mem_cons.1 hd with rfl| h
  ·exact Or.inl hn
  ·exact Or.inr (aLV h n hn)
theorem aQV{fuel:Nat}{c:Value}{x:DataW H× List MemPlace}(h:DataW.trod enc Tryz.prog w 0 (fun _=>true) true fuel 33 [c]=some x)(hl:aJ2 33 x.1):
  ∃(ns:List ByteArray) (na:Option Addr) (nc:Nat),c=.slice na ns.length nc∧Strs w (·<w.heap.size) ns na∧ns.length≤nc∧16*ns.length≤281474976710656:=by
 rcases open_strings Tryz.underlying33 Tryz.underlying9 Tryz.cells9 h with⟨hc,hx⟩| ⟨a,len,cap,ss,hc,-,hlc,hcm,hsl,rfl,hcell,hsz⟩
 ·simp only[List.cons.injEq,and_true] at hc
  exact⟨[],none,0,hc,⟨fun h=>absurd rfl h,fun i=>by simp[nth],by simp⟩,by simp,by simp⟩
 ·simp only[List.cons.injEq,and_true] at hc
  simp only[if_true] at hsl
  have hlen:(ss.take len).length=len:=by simp;omega
  refine⟨ss.take len,some a,cap,by rw[hlen];exact hc,⟨fun hne=>?_,fun i=>?_,by rw[hlen];omega⟩,by omega,?_⟩
  ·have h0:0<len:=by
    rcases Nat.eq_zero_or_pos len with h| h
    ·subst h;simp at hne
    ·exact h
   obtain⟨b,off,spot⟩:=a
   have hs:spot=none:=by simpa[Addr.add] using World.cell?_spot (hcell 0 (by omega))
   subst hs
   refine⟨b,off,rfl,?_,fun i hi=>?_⟩
   ·have h1:=hcell 0 (by omega)
    have:w.cells? 0 ⟨b,off,none⟩ 1=some [.string (ss.getD 0 ByteArray.empty)]:=cells?_one (Nat.zero_le _) (by simpa[Addr.add] using h1)
    exact World.cells?_block this (by omega)
   ·have:=hcell i (by omega)
    rw[aIS] at this
    rw[this]
    simp[nth,List.getD_eq_getElem?_getD,List.getElem?_take,show i<len by omega]
  ·simp only[nth,List.getD_eq_getElem?_getD,List.getElem?_take]
   split
   ·by_cases hi:i<ss.length
    ·rw[List.getElem?_eq_getElem hi];exact hsz _ (List.getElem_mem hi)
    ·rw[List.getElem?_eq_none (by omega)];simp
   ·simp
  ·have h1:=hl ((strs (H:=H) (ss.take len)).length+(strs (H:=H) (ss.drop len)).length |>.mul (Tryz.prog.bytesOf 9)) (by
    simp only[DataW.weights,Tryz.underlying33];exact List.mem_cons_self ..)
   have h2:((strs (H:=H) (ss.take len)).length+(strs (H:=H) (ss.drop len)).length)*Tryz.prog.bytesOf 9≤reachBytes:=h1
   rw[Tryz.bytes9] at h2
   simp only[strs,List.length_map,List.length_take,List.length_drop,reachBytes] at h2
   omega
theorem aJG{X:Type}(z:X)(R:X→List Value→Prop)(sl e:TypeId)(sz by':Nat)(hu:Tryz.prog.underlying sl=some (.slice e))(hc:Tryz.prog.cellsOf e=sz)(hby:Tryz.prog.bytesOf e=by')(hs0:0<sz)
  {fuel:Nat} {c:Value} {x:DataW H× List MemPlace} (h:DataW.trod enc Tryz.prog w 0 (fun _=>true) true fuel sl [c]=some x) (hl:aJ2 sl x.1)
  (ih:∀m cs y,DataW.trod enc Tryz.prog w 0 (fun _=>true) true m e cs=some y→aJ2 e y.1→cs.length=sz∧∃a,R a cs):
  ∃(xs:List X) (a:Option Addr) (cap:Nat) (C:Nat→Nat→Value),c=.slice a xs.length cap∧xs.length≤cap∧by'*xs.length≤281474976710656∧Arr w (·<w.heap.size) sz xs.length a C∧∀i,i<xs.length→R (xs.getD i z) ((List.range sz).map (C i)):=by
 rcases DataW.trod_slice hu h with⟨hc0,-⟩| ⟨a,len,cap,elems,rest,n',hfu,hc0,rfl,-,hlc,hcm,hle,hel,-,-⟩
 ·simp only[List.cons.injEq,and_true] at hc0
  exact⟨[],none,0,fun _ _=>undef,hc0,by simp,by simp,fun h=>by simp at h,fun i hi=>by simp at hi⟩
 ·simp only[List.cons.injEq,and_true] at hc0
  have hw:by'*len≤281474976710656:=by
   have h1:=hl (((elems.map (·.1)).length+(rest.map (·.1)).length)*Tryz.prog.bytesOf e) (by simp only[DataW.weights,hu];exact List.mem_cons_self ..)
   rw[hby] at h1
   simp only[List.length_map,reachBytes] at h1
   have h2:len*by'≤(elems.length+rest.length)*by':=Nat.mul_le_mul_right _ (by omega)
   have h3:by'*len=len*by':=Nat.mul_comm _ _
   omega
  have hk:∀i,∃r:X× (Nat→Value),i<len→(∀j,j<sz→w.cell? ((a.add (i*sz)).add j)=some (r.2 j))∧R r.1 ((List.range sz).map r.2):=by
   intro i
   by_cases hi:i<len
   ·have hi':i<elems.length:=by omega
    have h1:=hel i hi
    rw[List.getElem?_eq_getElem hi',hc] at h1
    obtain⟨cs',hcs,htr⟩:=Option.bind_eq_some_iff.1 h1
    obtain⟨hlen,y,hR⟩:=ih n' cs' _ htr (fun k hk=>hl k (by
     simp only[DataW.weights,hu]
     refine List.mem_cons_of_mem _ (List.mem_append_left _ (aLV (d:=elems[i].1) ?_ k hk))
     exact List.mem_map.2 ⟨elems[i],List.getElem_mem hi',rfl⟩))
    obtain⟨-,-,hcc⟩:=World.cells?_some hcs
    have hcs2:(List.range sz).map (fun j=>cs'.getD j undef)=cs':=by
     apply List.ext_getElem
     ·simp[hlen]
     ·intro j h1 h2;simp[List.getD_eq_getElem?_getD,List.getElem?_eq_getElem h2]
    refine⟨(y,fun j=>cs'.getD j undef),fun _=>⟨fun j hj=>?_,?_⟩⟩
    ·rw[hcc j hj]
     simp[List.getD_eq_getElem?_getD,List.getElem?_eq_getElem (show j<cs'.length by omega)]
    ·show R y ((List.range sz).map (fun j=>cs'.getD j undef))
     rw[hcs2];exact hR
   ·exact⟨(z,fun _=>undef),fun h=>absurd h hi⟩
  obtain⟨f,hfk⟩:=Classical.skolem.1 hk
  have hkl:((List.range len).map fun i=>(f i).1).length=len:=by simp
  refine⟨(List.range len).map fun i=>(f i).1,some a,cap,fun i=>(f i).2,by rw[hkl];exact hc0,by rw[hkl];exact hlc,by rw[hkl];exact hw,?_,?_⟩
  ·intro h0
   rw[hkl] at h0 ⊢
   have h1:=(hfk 0 h0).1 0 hs0
   have h2:w.cell? a=some ((f 0).2 0):=by simpa[Addr.add] using h1
   have hsp:=World.cell?_spot h2
   obtain⟨b,off,spot⟩:=a
   simp only at hsp
   subst hsp
   have:w.cells? 0 ⟨b,off,none⟩ 1=some [(f 0).2 0]:=cells?_one (Nat.zero_le _) h2
   refine⟨b,off,rfl,World.cells?_block this (by omega),fun i hi j hj=>?_⟩
   have h3:=(hfk i hi).1 j hj
   rw[aIS,aIS] at h3
   exact h3
  ·intro i hi
   rw[hkl] at hi
   have h1:=(hfk i hi).2
   simpa[List.getD_eq_getElem?_getD,List.getElem?_map,List.getElem?_range hi] using h1
end
end Go.Proofs.YtcebpkeiaiiphaaGreatDoor
