import Derived.Test.YtcebpkeiaiiphaaGreatDoorRC7
set_option linter.unusedSimpArgs false
set_option linter.unusedVariables false
namespace Go.Proofs.YtcebpkeiaiiphaaGreatDoor
open Go.RowKit Go.Maps
structure Sta where
 part:Nat
 type:ByteArray
def qry:ByteArray:=⟨#[113,117,101,114,121]⟩
def Sta.zero:Sta:=⟨0,ByteArray.empty⟩
def sta(ss:List Sta)(i:Nat):Sta:=ss.getD i Sta.zero
def aRF(w:World)(P:Nat->Prop)(ss:List Sta)(a:Option Addr):Prop:=∃C:Nat->Nat->Value,Arr w P 2 ss.length a C∧∀i,i<ss.length->C i 0=.int .i64 (sta ss i).part∧C i 1=.string (sta ss i).type
theorem aRF.at{w:World}{P:Nat->Prop}{ss:List Sta}{a:Option Addr}(h:aRF w P ss a)(i:Nat)(hi:i<ss.length):∃b off,a=some ⟨b,off,none⟩∧P b∧w.cell? ⟨b,off+i*2,none⟩=some (.int .i64 (sta ss i).part)∧w.cell? ⟨b,off+i*2+1,none⟩=some (.string (sta ss i).type):=by
 obtain⟨C,hA,hr⟩:=h;obtain⟨b,off,rfl,hb,hc⟩:=hA (by omega)
 refine⟨b,off,rfl,hb,?_,?_⟩
 ·rw[<-(hr i hi).1];exact hc i hi 0 (by omega)
 ·rw[<-(hr i hi).2];exact hc i hi 1 (by omega)
def aLA(s:Sta):List Value:=[.int .i64 s.part,.string s.type]
def aE0:List Sta->List Value
 |[]=>[]
 |s::r=>aLA s++aE0 r
theorem aJM:∀(a:List Sta) (f:Sta),aE0 (a++[f])=aE0 a++aLA f
 |[],f=>by simp[aE0]
 |x::r,f=>by rw[List.cons_append,aE0,aE0,aJM r f,List.append_assoc]
theorem aOL:∀(a:List Sta) (i:Nat),i<a.length->(aE0 a)[i*2]?=some (.int .i64 (sta a i).part)∧(aE0 a)[i*2+1]?=some (.string (sta a i).type)
 |[],i,h=>by simp at h
 |x::r,0,h=>by simp[aE0,aLA,sta]
 |x::r,i+1,h=>by
  have ih:=aOL r i (by simpa using h)
  have e:sta (x::r) (i+1)=sta r i:=rfl;have e1:(i+1)*2=(aLA x).length+i*2:=by simp[aLA];omega
  rw[e,aE0];refine⟨?_,?_⟩
  ·rw[e1,List.getElem?_append_right (by omega),Nat.add_sub_cancel_left];exact ih.1
  ·rw[e1,Nat.add_assoc,List.getElem?_append_right (by omega),Nat.add_sub_cancel_left];exact ih.2
theorem aJY{W:World}{base n c:Nat}{a:Option Addr}{L:List Sta}(h:W.ownsRow base 72 2 (.slice a n c) L.length (aE0 L)):
  n=L.length∧L.length<=c∧aRF W (fun b=>base<=b∧b<W.heap.size) L a:=by
 obtain⟨h1,h2⟩:=h;rcases h2 with⟨e,e0⟩| ⟨g,cap,cur,e,hb,hh,hc,hm,hl,ht⟩
 ·simp only[Value.slice.injEq] at e;obtain⟨rfl,rfl,rfl⟩:=e;have hl:L=[]:=by simpa using e0
  subst hl;exact⟨rfl,Nat.le_refl _,fun _ _=>undef,fun hn=>by simp at hn,fun i hi=>by simp at hi⟩
 ·simp only[Value.slice.injEq] at e;obtain⟨rfl,rfl,rfl⟩:=e;have hg:g<W.heap.size:=(Array.getElem?_eq_some_iff.1 hh).1;have hcell:∀j,j<L.length*2->W.cell? ⟨g,j,none⟩=(aE0 L)[j]?:=fun j hj=>by
   rw[cell_of_row W g j cur _ _ hh];have e1:cur.toList.take (L.length*2)=aE0 L:=by simpa[Nat.mul_comm] using ht
   rw[<-e1,List.getElem?_take_of_lt hj];simp
  refine⟨rfl,hc,fun i j=>if j=0 then .int .i64 (sta L i).part else .string (sta L i).type,fun hn=>⟨g,0,rfl,⟨hb,hg⟩,fun i hi j hj=>?_⟩,fun i hi=>⟨rfl,rfl⟩⟩
  obtain⟨f0,f1⟩:=aOL L i hi;by_cases hj0:j=0
  ·subst hj0;rw[Nat.zero_add,Nat.add_zero,hcell _ (by omega),f0];rfl
  ·have hj1:j=1:=by omega
   subst hj1;rw[Nat.zero_add,hcell _ (by omega),f1];rfl
theorem aB2{w w':World}{base:Nat}{e:TypeId}{size:Nat}{v:Value}{n:Nat}{xs:List Value}(h:w.ownsRow base e size v n xs)(hk:∀g,v.ownBlock=some g->w'.heap[g]?=w.heap[g]?):w'.ownsRow base e size v n xs:=by
 obtain⟨h1,h2⟩:=h;refine⟨h1,?_⟩;rcases h2 with h2| ⟨g,cap,cur,rfl,hb,hh,r⟩
 ·exact .inl h2
 ·exact .inr ⟨g,cap,cur,rfl,hb,(hk g rfl).trans hh,r⟩
theorem aKK{w:World}{base:Nat}{e:TypeId}{size:Nat}{v:Value}{n:Nat}{xs:List Value}(h:w.ownsRow base e size v n xs){g:Nat}(hg:v.ownBlock=some g):∃cur,w.heap[g]?=some (.cells cur e (0,0)):=by
 rcases h.2 with⟨rfl,-⟩| ⟨g',cap,cur,rfl,hb,hh,r⟩
 ·cases hg
 ·cases hg;exact⟨_,hh⟩
structure Grps(w:World)(F:Nat->Prop)(B:Nat)(eT:TypeId)(en:Nat)(kv:Value)(G:Value->Option Value)(GL:Value->List Value):Prop where
 nil0:∀k,G k=none->GL k=[]
 row:∀k v,G k=some v->∃L,0<L∧w.ownsRow B eT en v L (GL k)
 fp:∀k v g,G k=some v->v.ownBlock=some g->F g∧kv.ownBlock≠some g
 apart:∀k k' v v' g,G k=some v->G k'=some v'->k≠k'->v.ownBlock=some g->v'.ownBlock≠some g
structure Lst(w:World)(F:Nat->Prop)(I:Value->Prop)(B:Nat)(kT:TypeId)(kn:Nat)(eT:TypeId)(en:Nat)(kv:Value)(m KL:Nat)(KS:List Value)(GL:Value->List Value):Prop where
 keys:w.ownsRow B kT kn kv KL KS
 keyF:∀g,kv.ownBlock=some g->F g
 map:∃G,aDI w I m G∧Grps w F B eT en kv G GL
 mapF:F m
 bd:∀g,F g->B<=g∧g<w.heap.size
variable {w:World} {F:Nat->Prop} {I:Value->Prop} {B:Nat} {kT:TypeId} {kn:Nat} {eT:TypeId} {en:Nat} {kv:Value} {m KL:Nat} {KS:List Value} {GL:Value->List Value}
theorem Lst.mlt(h:Lst w F I B kT kn eT en kv m KL KS GL):B<=m∧m<w.heap.size:=h.bd m h.mapF
theorem aCF{w:World}{m:Nat}{G:Value->Option Value}{I:Value->Prop}(h:aDI w I m G){base:Nat}{e:TypeId}{size:Nat}{v:Value}{n:Nat}{xs:List Value}(h2:w.ownsRow base e size v n xs):v.ownBlock≠some m:=fun e=>by
 obtain⟨es,clock,hb,-⟩:=h;obtain⟨cur,hc⟩:=aKK h2 e;rw[hb] at hc;cases hc
theorem Lst.keep{w':World}(h:Lst w F I B kT kn eT en kv m KL KS GL)(hk:∀b,F b->w'.heap[b]?=w.heap[b]?)(hs:w.heap.size<=w'.heap.size):Lst w' F I B kT kn eT en kv m KL KS GL:=by
 obtain⟨G,hO,hG⟩:=h.map;exact⟨aB2 h.keys fun g hg=>hk g (h.keyF g hg),h.keyF,⟨G,hO.of_block (hk m h.mapF),hG.nil0,fun k v hv=>by
  obtain⟨L,h1,h2⟩:=hG.row k v hv;exact⟨L,h1,aB2 h2 fun g hg=>hk g (hG.fp k v g hv hg).1⟩,hG.fp,hG.apart⟩,h.mapF,fun g hg=>by have:=h.bd g hg;omega⟩
theorem Lst.made(w:World)(hm:w.heap[m]?=some (.map #[] 0))(hB:B<=m):Lst w (·=m) I B kT kn eT en (.slice none 0 0) m 0 [] (fun _=>[]):=
 ⟨World.ownsRow_nil _ _ _ _,fun g h=>(by cases h),⟨fun _=>none,⟨#[],0,hm,by simp,by simp,by simp⟩,fun _ _=>rfl,fun k v h=>(by cases h),fun k v g h=>(by cases h),fun k k' v v' g h=>(by cases h)⟩,rfl,fun g hg=>(by
  subst hg;exact⟨hB,(Array.getElem?_eq_some_iff.1 hm).1⟩)⟩
theorem Lst.key{wF:World}(h:Lst w F I B kT kn eT en kv m KL KS GL){kv':Value}{kc:List Value}{KL':Nat}(ho:wF.ownsRow B kT kn kv' KL' (KS++kc))(hg:w.grownBy wF kv.ownBlock)(hn:∀g,kv'.ownBlock=some g->kv.ownBlock=some g∨w.heap.size<=g):
  Lst wF (fun b=>F b∨kv'.ownBlock=some b) I B kT kn eT en kv' m KL' (KS++kc) GL:=by
 obtain⟨G,hO,hG⟩:=h.map;have hz:=hg.size;refine⟨ho,fun g hg=>.inr hg,⟨G,hO.of_block (hg.block m h.mlt.2 fun e=>aCF hO h.keys e.symm),hG.nil0,fun k v hv=>?_,fun k v g hv hg'=>⟨.inl (hG.fp k v g hv hg').1,fun e=>?_⟩,hG.apart⟩,.inl h.mapF,fun g hg'=>?_⟩
 ·obtain⟨L,h1,h2⟩:=hG.row k v hv;exact⟨L,h1,aB2 h2 fun g hg'=>hg.block g (h.bd g (hG.fp k v g hv hg').1).2 fun e=>(hG.fp k v g hv hg').2 e.symm⟩
 ·have h1:=hG.fp k v g hv hg';rcases hn g e with h2| h2
  ·exact h1.2 h2
  ·have:=(h.bd g h1.1).2;omega
 ·rcases hg' with hg'| hg'
  ·have:=h.bd g hg';omega
  ·exact ho.lt g hg'
theorem Lst.put{wF w2:World}(h:Lst w F I B kT kn eT en kv m KL KS GL){G:Value->Option Value}(hO:aDI w I m G)(hG:Grps w F B eT en kv G GL){key:Value}{xs:List Value}{L:Nat}{v':Value}(ho:wF.ownsRow B eT en v' L (GL key++xs))(hL:0<L)
  (hg:w.grownBy wF ((G key).getD (.slice none 0 0)).ownBlock) (hn:∀g,v'.ownBlock=some g->((G key).getD (.slice none 0 0)).ownBlock=some g∨w.heap.size<=g)
  {G2:Value->Option Value} (hO2:aDI w2 I m G2) (h1:G2 key=some v') (h2:∀y,y≠key->G2 y=G y) (hg2:wF.grownBy w2 (some m)) {GL':Value->List Value} (e1:GL' key=GL key++xs) (e2:∀y,y≠key->GL' y=GL y):
  Lst w2 (fun b=>F b∨v'.ownBlock=some b) I B kT kn eT en kv m KL KS GL':=by
 have hz:=hg.size;have hz2:=hg2.size;have hold:∀g,((G key).getD (.slice none 0 0)).ownBlock=some g->F g∧kv.ownBlock≠some g∧g≠m∧∀k v,k≠key->G k=some v->v.ownBlock≠some g:=fun g hg'=>by
  cases hk:G key with
  |none=>rw[hk] at hg';cases hg'
  |some v=>
   rw[hk] at hg';simp only[Option.getD_some] at hg';obtain⟨L,-,hr⟩:=hG.row key v hk;exact⟨(hG.fp key v g hk hg').1,(hG.fp key v g hk hg').2,fun e=>aCF hO hr (e▸hg'),fun k v2 hne hk2=>hG.apart key k v v2 g hk hk2 (fun e=>hne e.symm) hg'⟩
 have hblk:∀b,b<w.heap.size->((G key).getD (.slice none 0 0)).ownBlock≠some b->b≠m->w2.heap[b]?=w.heap[b]?:=fun b hb hn hm=>(hg2.block b (by omega) fun e=>hm (Option.some.inj e)).trans (hg.block b hb fun e=>hn e.symm)
 have hnm:∀g,v'.ownBlock=some g->g≠m:=fun g hg' e=>by
  rcases hn g hg' with h3| h3
  ·exact(hold g h3).2.2.1 e
  ·have:=h.mlt.2;omega
 refine⟨aB2 h.keys fun g hg'=>hblk g (h.bd g (h.keyF g hg')).2 (fun e=>(hold g e).2.1 hg') fun e=>aCF hO h.keys (e▸hg'),fun g hg'=>.inl (h.keyF g hg'),⟨G2,hO2,fun k hk=>?_,fun k v hv=>?_,fun k v g hv hg'=>?_,fun k k' v1 v2 g hv1 hv2 hne hg'=>?_⟩,.inl h.mapF,fun g hg'=>?_⟩
 ·have hne:k≠key:=fun e=>by rw[e,h1] at hk;cases hk
  rw[e2 k hne];exact hG.nil0 k (by rw[<-h2 k hne];exact hk)
 ·by_cases hne:k=key
  ·subst hne;rw[h1] at hv;cases hv;rw[e1];exact⟨L,hL,aB2 ho fun g hg'=>hg2.block g (ho.lt g hg').2 fun e=>hnm g hg' (Option.some.inj e)⟩
  ·rw[h2 k hne] at hv;obtain⟨L',h3,h4⟩:=hG.row k v hv;rw[e2 k hne];exact⟨L',h3,aB2 h4 fun g hg'=>hblk g (h.bd g (hG.fp k v g hv hg').1).2 (fun e=>(hold g e).2.2.2 k v hne hv hg') fun e=>aCF hO h4 (e▸hg')⟩
 ·by_cases hne:k=key
  ·subst hne;rw[h1] at hv;cases hv;refine⟨.inr hg',fun e=>?_⟩;rcases hn g hg' with h3| h3
   ·exact(hold g h3).2.1 e
   ·have:=(h.bd g (h.keyF g e)).2;omega
  ·rw[h2 k hne] at hv;exact⟨.inl (hG.fp k v g hv hg').1,(hG.fp k v g hv hg').2⟩
 ·by_cases hk1:k=key
  ·subst hk1;rw[h1] at hv1;cases hv1;rw[h2 k' (fun e=>hne e.symm)] at hv2;intro e;rcases hn g hg' with h3| h3
   ·exact(hold g h3).2.2.2 k' v2 (fun e=>hne e.symm) hv2 e
   ·have:=(h.bd g (hG.fp k' v2 g hv2 e).1).2;omega
  ·rw[h2 k hk1] at hv1;by_cases hk2:k'=key
   ·subst hk2;rw[h1] at hv2;cases hv2;intro e;rcases hn g e with h3| h3
    ·exact(hold g h3).2.2.2 k v1 hk1 hv1 hg'
    ·have:=(h.bd g (hG.fp k v1 g hv1 hg').1).2;omega
   ·rw[h2 k' hk2] at hv2;exact hG.apart k k' v1 v2 g hv1 hv2 hne hg'
 ·rcases hg' with hg'| hg'
  ·have:=h.bd g hg';omega
  ·have:=ho.lt g hg';omega
end Go.Proofs.YtcebpkeiaiiphaaGreatDoor
namespace Go.Proofs.YtcebpkeiaiiphaaGreatDoor
open Go.RowKit
theorem FRep.vals{w:World}{P:Nat->Prop}{f:F}{nm of:ByteArray}{l m fr hi sh:Bool}{na:Option Addr}{nl nc:Nat}(h:FRep w P f (.agg #[.string nm,.string of,.bool l,.bool m,.bool fr,.bool hi,.bool sh,.slice na nl nc])):
  nm=f.name∧of=f.of∧l=f.list∧m=f.must∧fr=f.far∧hi=f.hidden∧sh=f.shared∧nl=f.needs.length∧Strs w P f.needs na∧f.needs.length<=nc∧f.name.size<=maxLen∧f.of.size<=maxLen:=by
 obtain⟨e0,e1,e2,e3,e4,e5,e6,na',nc',e7,h1,h2,h3,h4⟩:=h.parts;simp only[Value.string.injEq,Value.bool.injEq,Value.slice.injEq] at e0 e1 e2 e3 e4 e5 e6 e7;obtain⟨rfl,e8,rfl⟩:=e7;exact⟨e0,e1,e2,e3,e4,e5,e6,e8,h1,h2,h3,h4⟩
set_option maxHeartbeats 800000 in
theorem aLV(nm of:ByteArray)(l m fr hi sh:Bool)(na:Option Addr)(nl nc:Nat)(w:World):
  Calls Tryz.prog 160 #[.agg #[.int .u8 (aCD l m fr hi sh),.string nm,.string of,.bool l,.bool m,.bool fr,.bool hi,.bool sh,.slice na nl nc]] w fun e w'=>e=.returned (.bool (isT of [105,110,116]&&(nl:Int)==0&&m&&!(l||fr||hi)))∧Below w.heap.size w w':=by
 have h1:=fun w=>aD7 (aCD l m fr hi sh) 2 w;have h2:=fun w=>aHD (aCD l m fr hi sh) 13 w;rw[aM9] at h1;rw[aSI] at h2;generalize aCD l m fr hi sh=x at*;cases e1:(of.toList==[105,110,116])
 ·go_enter Tryz.func160,Tryz.ntmps160
  go_wp2_with fail
  go_ret
  exact⟨aA4 (by simp[isT,e1]),aA2 _ _⟩
 cases e2:((nl:Int)==0)
 ·go_enter Tryz.func160,Tryz.ntmps160
  go_wp2_with fail
  go_ret
  exact⟨aA4 (by simp),aA2 _ _⟩
 cases m
 ·go_enter Tryz.func160,Tryz.ntmps160
  go_wp2_with (go_at_call 161;refine(h1 _).mono ?_;rintro e w' ⟨rfl,rfl⟩)
  go_ret
  exact⟨aA4 (by simp),aA2 _ _⟩
 ·go_enter Tryz.func160,Tryz.ntmps160
  go_wp2_with (first| (go_at_call 161;refine(h1 _).mono ?_;rintro e w' ⟨rfl,rfl⟩)| (go_at_call 174;refine(h2 _).mono ?_;rintro e w' ⟨rfl,rfl⟩))
  go_ret
  exact⟨aA4 (by simp[isT,e1]),aA2 _ _⟩
set_option maxHeartbeats 800000 in
theorem aF5(nm of:ByteArray)(l m fr hi sh:Bool)(na:Option Addr)(nl nc:Nat)(w:World):
  Calls Tryz.prog 175 #[.agg #[.int .u8 (aCD l m fr hi sh),.string nm,.string of,.bool l,.bool m,.bool fr,.bool hi,.bool sh,.slice na nl nc]] w fun e w'=>e=.returned (.bool (isT of [105,110,116]&&(nl:Int)==0&&!l))∧Below w.heap.size w w':=by
 have h2:=fun w=>aHD (aCD l m fr hi sh) 1 w;rw[aR8] at h2;generalize aCD l m fr hi sh=x at*;cases e1:(of.toList==[105,110,116])
 ·go_enter Tryz.func175,Tryz.ntmps175
  go_wp2_with fail
  go_ret
  exact⟨aA4 (by simp[isT,e1]),aA2 _ _⟩
 cases e2:((nl:Int)==0)
 ·go_enter Tryz.func175,Tryz.ntmps175
  go_wp2_with fail
  go_ret
  exact⟨aA4 (by simp),aA2 _ _⟩
 ·go_enter Tryz.func175,Tryz.ntmps175
  go_wp2_with (go_at_call 174;refine(h2 _).mono ?_;rintro e w' ⟨rfl,rfl⟩)
  go_ret
  exact⟨aA4 (by simp[isT,e1]),aA2 _ _⟩
set_option maxHeartbeats 800000 in
theorem aNS(nm of:ByteArray)(l m fr hi sh:Bool)(na:Option Addr)(nl nc:Nat)(tn tk:ByteArray)(fa:Option Addr)(fl fc:Nat)(w:World):
  Calls Tryz.prog 162 #[.agg #[.int .u8 (aCD l m fr hi sh),.string nm,.string of,.bool l,.bool m,.bool fr,.bool hi,.bool sh,.slice na nl nc],.agg #[.string tn,.string tk,.slice fa fl fc]] w fun e w'=>e=.returned (.bool (isT of [105,110,116]&&!(l||fr||m)&&!tk.toList.isEmpty&&!(nm.toList==tk.toList)))∧Below w.heap.size w w':=by
 have h2:=fun w=>aHD (aCD l m fr hi sh) 7 w;rw[aRY] at h2;generalize aCD l m fr hi sh=x at*;cases e1:(of.toList==[105,110,116])
 ·go_enter Tryz.func162,Tryz.ntmps162
  go_wp2_with fail
  go_ret
  exact⟨aA4 (by simp[isT,e1]),aA6 _ _ _⟩
 cases e2:(l||fr||m)
 ·rw[e2] at h2;cases e3:tk.toList.isEmpty
  ·cases e4:(nm.toList==tk.toList)
   ·have g4:(nm.toList !=tk.toList)=true:=by simp only[bne,e4];rfl
    go_enter Tryz.func162,Tryz.ntmps162
    go_wp2_with (go_at_call 174;refine(h2 _).mono ?_;rintro e w' ⟨rfl,rfl⟩)
    go_ret
    exact⟨aA4 (by simp[isT,e1]),aA6 _ _ _⟩
   ·have g4:(nm.toList !=tk.toList)=false:=by simp only[bne,e4];rfl
    go_enter Tryz.func162,Tryz.ntmps162
    go_wp2_with (go_at_call 174;refine(h2 _).mono ?_;rintro e w' ⟨rfl,rfl⟩)
    go_ret
    exact⟨aA4 (by simp[isT,e1]),aA6 _ _ _⟩
  ·go_enter Tryz.func162,Tryz.ntmps162
   go_wp2_with (go_at_call 174;refine(h2 _).mono ?_;rintro e w' ⟨rfl,rfl⟩)
   go_ret
   exact⟨aA4 (by simp),aA6 _ _ _⟩
 ·rw[e2] at h2;go_enter Tryz.func162,Tryz.ntmps162
  go_wp2_with (go_at_call 174;refine(h2 _).mono ?_;rintro e w' ⟨rfl,rfl⟩)
  go_ret
  exact⟨aA4 (by simp),aA6 _ _ _⟩
set_option maxHeartbeats 800000 in
theorem aK6(t:T)(w:World)(B:Nat)(v:Value)(hR:TRep w (·<B) t v)(hB:B<=w.heap.size):
  Calls Tryz.prog 134 #[v] w fun e w'=>e=.returned (.bool (keyB t))∧Below w.heap.size w w':=by
 have hR':=hR;obtain⟨name,key,fields⟩:=t;obtain⟨fa,fc,rfl,hK,hnc,hn,ho⟩:=hR;simp only at hK hnc hn ho;cases hke:key.toList.isEmpty;case true=>
  go_enter Tryz.func134,Tryz.ntmps134
  go_wp2_with fail
  go_ret
  exact⟨aA4 (by simp[keyB,hke]),aA2 _ _⟩
 have hff:=fun o=>aCP ⟨name,key,fields⟩ (w.alloc o) B _ key (hR'.under ((aA2 w o).mono hB)) (by simp;omega)
 have hkb:Hid (keyB ⟨name,key,fields⟩=(decide (0<=aAB ⟨name,key,fields⟩ key)&&aFD (aAT ⟨name,key,fields⟩ key))):=by
  show _=_;by_cases h:0<=aAB ⟨name,key,fields⟩ key<;>simp[keyB,hke,aAT,h]
 cases hix:decide (0<=aAB ⟨name,key,fields⟩ key)
 ·rw[hix] at hff;go_enter Tryz.func134,Tryz.ntmps134
  go_wp2_with (go_at_call 98;refine(hff _).mono ?_;rintro e w1 ⟨nm,of,l,m,fr,hi,sh,na,nl,nc,rfl,hb1,hf1⟩)
  go_ret
  exact⟨aA4 (by rw[hkb.out,hix];rfl),((aA2 w _).trans (hb1.mono (by simp))).alloc (by have:=hb1.size;simp at this;omega) _⟩
 ·rw[hix] at hff;go_enter Tryz.func134,Tryz.ntmps134
  go_wp2_with (first
   |(
    go_at_call 98
    refine(hff _).mono ?_;rintro e w1 ⟨nm,of,l,m,fr,hi,sh,na,nl,nc,rfl,hb1,hf1⟩)
   |(
    go_at_call 139
    refine(aBN _ _ _ _ _ _ _ _ _ _ _).mono ?_;rintro e w2 ⟨rfl,hb2⟩)
   |(
    go_at_call 160
    refine(aLV _ _ _ _ _ _ _ _ _ _ _).mono ?_;rintro e w3 ⟨rfl,hb3⟩))
  go_ret
  obtain⟨-,rfl,rfl,rfl,rfl,rfl,rfl,rfl,-⟩:=hf1.vals;have z1:=hb1.size;simp at z1;have z2:=hb2.size;simp at z2;refine⟨aA4 ?_,((((aA2 w _).trans (hb1.mono (by simp))).alloc (by omega) _).trans (hb2.mono (by simp;omega))).trans (hb3.mono (by omega))⟩
  rw[hkb.out,hix];simp only[aFD,Bool.true_and];generalize aAT ⟨name,key,fields⟩ key=f;cases f.list<;>cases f.must<;>cases f.far<;>cases f.hidden<;>simp
end Go.Proofs.YtcebpkeiaiiphaaGreatDoor
namespace Go.Proofs.YtcebpkeiaiiphaaGreatDoor
open Go.RowKit Go.Maps
def aFL(w:World)(xa:Option Addr)(m:Nat)(news:List Value):Prop:=0<m->∃ad,xa=some ad∧∀j u,news[j]?=some u->w.cell? (ad.add j)=some u
theorem aJK{P:Program}(w:World)(t ty e:TypeId)(i:TypeInfo)(ht:P.underlying t=some (.slice e))(hi:P.info? e=some i)(g n cap c:Nat)(hn:n<=cap):
  (Builtin.append_ #[t,t] ty #[.slice (some ⟨g,0,none⟩) n cap,.slice none 0 c]).run P w=.ok (.slice (some ⟨g,0,none⟩) n cap) w:=by
 simp[Builtin.append_,run_underlying ht,sizeOf,typeInfo,hi,Builtin.lenOf,Builtin.firstCells,hn,storeCells]
theorem aGB{P:Program}{w:World}(base:Nat)(t ty e:TypeId)(i:TypeInfo)(z:Value)(size bytes:Nat)(ht:P.underlying t=some (.slice e))(hi:P.info? e=some i)(hz:i.zero=some z)
  (hsize:i.size=size) (hby:i.bytes=bytes) (hzs:z.cells.size=size) (hsz:0<size)
  (g n cap:Nat) (xs:List Value) (hown:w.ownsRow base e size (.slice (some ⟨g,0,none⟩) n cap) n xs)
  (xa:Option Addr) (m c:Nat) (news:List Value) (hl:news.length=m*size) (hnews:aFL w xa m news) (h1:∀u∈ news,u.oneCell'=true)
  (h63:n+m<=maxLen) (hbytes:(n+m)*bytes<=140737488355328) (hbase:base<=w.heap.size):
  ∃g' cap' w',(Builtin.append_ #[t,t] ty #[.slice (some ⟨g,0,none⟩) n cap,.slice xa m c]).run P w=.ok (.slice (some ⟨g',0,none⟩) (n+m) cap') w'∧w'.ownsRow base e size (.slice (some ⟨g',0,none⟩) (n+m) cap') (n+m) (xs++news)∧w.grownBy w' (some g)∧(g'=g∨g'=w.heap.size):=by
 have hnc:n<=cap:=by
  rcases hown.2 with⟨h',_⟩| ⟨g',cap',cur,h',_,_,hn,_⟩
  ·simp at h'
  ·simp only[Value.slice.injEq,true_and] at h';obtain⟨-,rfl⟩:=h';exact hn
 rcases xa with _| ad
 ·have hm:m=0:=by
   rcases Nat.eq_zero_or_pos m with h| h
   ·exact h
   ·obtain⟨ad,e,-⟩:=hnews h;cases e
  subst hm;have hnil:news=[]:=List.length_eq_zero_iff.1 (by simpa using hl)
  subst hnil;exact⟨g,cap,w,aJK w t ty e i ht hi g n cap c hnc,by simpa using hown,⟨rfl,rfl,rfl,Nat.le_refl _,fun _ _ _=>rfl⟩,Or.inl rfl⟩
 ·have hn2:∀j u,news[j]?=some u->w.cell? (ad.add j)=some u:=fun j u hu=>by
   rcases Nat.eq_zero_or_pos m with h| h
   ·subst h;have hnil:news=[]:=List.length_eq_zero_iff.1 (by simpa using hl)
    rw[hnil] at hu;simp at hu
   ·obtain⟨ad',e,h2⟩:=hnews h;cases e;exact h2 j u hu
  obtain⟨v',w',hrun,h2,h3,-,h5⟩:=run_append_own_at (P:=P) w base t ty e i z size bytes ht hi hz hsize hby hzs hsz _ n xs hown ad m c news hl hn2 h1 h63 hbytes hbase;rcases h2.2 with⟨h',_⟩| ⟨g',cap',cur,hv,-⟩
  ·rw[h'] at h5;simp[Value.ownBlock] at h5
  ·subst hv;refine⟨g',cap',w',hrun,h2,h3,?_⟩;simpa[Value.ownBlock] using h5
theorem aBO{P:Program}{w:World}{ops:Array Oper}{o:Oper}{a:Act}{K:Act->World->Prop}{Q:Exit->Act->World->Prop}{E:Prop}(hgd:o.guard=none)(s x:Operand)(t:TypeId)
  (ho:o.op=.call { callee:=.builtin .append,args:=#[s,x],argTypes:=#[t,t] })
  (base:Nat) (e:TypeId) (i:TypeInfo) (z:Value) (size bytes:Nat) (ht:P.underlying t=some (.slice e)) (hi:P.info? e=some i) (hz:i.zero=some z)
  (hsize:i.size=size) (hby:i.bytes=bytes) (hzs:z.cells.size=size) (hsz:0<size)
  (g n cap:Nat) (xs:List Value) (hs:a.eval s=.slice (some ⟨g,0,none⟩) n cap) (hown:w.ownsRow base e size (.slice (some ⟨g,0,none⟩) n cap) n xs)
  (xa:Option Addr) (m c:Nat) (news:List Value) (hx:a.eval x=.slice xa m c) (hl:news.length=m*size) (hnews:aFL w xa m news) (h1:∀u∈ news,u.oneCell'=true)
  (h63:n+m<=maxLen) (hbytes:(n+m)*bytes<=140737488355328) (hbase:base<=w.heap.size)
  (h:∀g' cap' w',w'.ownsRow base e size (.slice (some ⟨g',0,none⟩) (n+m) cap') (n+m) (xs++news)->w.grownBy w' (some g)->(g'=g∨g'=w.heap.size)->K (a.put o.dst (.slice (some ⟨g',0,none⟩) (n+m) cap')) w'):
  if Region.wanted o (yielded ops a.tmps)=true then Oper.wp P o a w K Q else E:=by
 have hw:Region.wanted o (yielded ops a.tmps)=true:=by simp[Region.wanted,hgd]
 rw[if_pos hw];obtain⟨g',cap',w',hrun,h2,h3,h4⟩:=aGB (P:=P) (w:=w) base t o.type e i z size bytes ht hi hz hsize hby hzs hsz g n cap xs hown xa m c news hl hnews h1 h63 hbytes hbase;unfold Oper.wp execOp;simp only[ho,resolve,invoke,builtin,Sem.run_bind,Sem.run_pure,Result.andThen_ok,List.map_toArray,List.map_cons,List.map_nil,hs,hx,hrun];exact h g' cap' w' h2 h3 h4
theorem aD6{P:Program}{w:World}{ops:Array Oper}{rest:List Oper}{o:Oper}{a:Act}{Q:Exit->Act->World->Prop}(hgd:o.guard=none)(s x:Operand)(t:TypeId)
  (ho:o.op=.call { callee:=.builtin .append,args:=#[s,x],argTypes:=#[t,t] })
  (base:Nat) (e:TypeId) (i:TypeInfo) (z:Value) (size bytes:Nat) (ht:P.underlying t=some (.slice e)) (hi:P.info? e=some i) (hz:i.zero=some z)
  (hsize:i.size=size) (hby:i.bytes=bytes) (hzs:z.cells.size=size) (hsz:0<size)
  (g n cap:Nat) (xs:List Value) (hs:a.eval s=.slice (some ⟨g,0,none⟩) n cap) (hown:w.ownsRow base e size (.slice (some ⟨g,0,none⟩) n cap) n xs)
  (xa:Option Addr) (m c:Nat) (news:List Value) (hx:a.eval x=.slice xa m c) (hl:news.length=m*size) (hnews:aFL w xa m news) (h1:∀u∈ news,u.oneCell'=true)
  (h63:n+m<=maxLen) (hbytes:(n+m)*bytes<=140737488355328) (hbase:base<=w.heap.size)
  (h:∀g' cap' w',w'.ownsRow base e size (.slice (some ⟨g',0,none⟩) (n+m) cap') (n+m) (xs++news)->w.grownBy w' (some g)->(g'=g∨g'=w.heap.size)->wpList P ops Q rest (a.put o.dst (.slice (some ⟨g',0,none⟩) (n+m) cap')) w'):
  wpList P ops Q (o::rest) a w:=by
 obtain⟨g',cap',w',hrun,h2,h3,h4⟩:=aGB (P:=P) (w:=w) base t o.type e i z size bytes ht hi hz hsize hby hzs hsz g n cap xs hown xa m c news hl hnews h1 h63 hbytes hbase;refine wpList_plain hgd fun K hK=>?_;unfold Oper.wp;simp[execOp,ho,resolve,invoke,builtin,hs,hx,hrun,Result.andThen];exact hK _ _ (h g' cap' w' h2 h3 h4)
def aCL(C:Nat->Nat->Value)(n:Nat):List Value:=(List.range (n*8)).map fun j=>C (j / 8) (j % 8)
theorem aDE(C:Nat->Nat->Value)(n:Nat):(aCL C n).length=n*8:=by simp[aCL]
theorem aLK(C:Nat->Nat->Value)(n i j:Nat)(hi:i<n)(hj:j<8):(aCL C n)[i*8+j]?=some (C i j):=by
 have h1:i*8+j<n*8:=by omega
 have h2:(i*8+j) / 8=i:=by omega
 have h3:(i*8+j) % 8=j:=by omega
 simp[aCL,h1,h2,h3]
theorem aMC{w:World}{P:Nat->Prop}{fs:List F}{C:Nat->Nat->Value}(hr:∀i,i<fs.length->FRep w P (fth fs i) (.agg #[C i 0,C i 1,C i 2,C i 3,C i 4,C i 5,C i 6,C i 7])):∀u∈ aCL C fs.length,u.oneCell'=true:=by
 intro u hu;simp only[aCL,List.mem_map,List.mem_range] at hu;obtain⟨j,hj,rfl⟩:=hu;obtain⟨na,nc,e,-⟩:=hr (j / 8) (by omega)
 simp only[Value.agg.injEq,Array.mk.injEq,List.cons.injEq,and_true] at e;obtain⟨e0,e1,e2,e3,e4,e5,e6,e7⟩:=e;have hm:j % 8<8:=Nat.mod_lt _ (by omega)
 generalize j % 8=q at*;rcases q with _| _| _| _| _| _| _| _| q
 ·simp only[e0];rfl
 ·simp only[Nat.zero_add,e1];rfl
 ·simp only[Nat.zero_add,Nat.reduceAdd,e2];rfl
 ·simp only[Nat.zero_add,Nat.reduceAdd,e3];rfl
 ·simp only[Nat.zero_add,Nat.reduceAdd,e4];rfl
 ·simp only[Nat.zero_add,Nat.reduceAdd,e5];rfl
 ·simp only[Nat.zero_add,Nat.reduceAdd,e6];rfl
 ·simp only[Nat.zero_add,Nat.reduceAdd,e7];rfl
 ·omega
theorem aKI{w:World}{P:Nat->Prop}{n:Nat}{a:Option Addr}{C:Nat->Nat->Value}(h:Arr w P 8 n a C):aFL w a n (aCL C n):=fun hn=>by
 obtain⟨b,off,e,-,hc⟩:=h hn;refine⟨_,e,fun j u hu=>?_⟩;have hj:j<n*8:=by
  have:=(List.getElem?_eq_some_iff.1 hu).1;rw[aDE] at this;exact this
 have h1:=hc (j / 8) (by omega) (j % 8) (Nat.mod_lt _ (by omega))
 rw[Addr.add_lit];have e2:off+j / 8*8+j % 8=off+j:=by omega
 rw[e2] at h1;rw[h1];have e3:(aCL C n)[j]?=some (C (j / 8) (j % 8)):=by simp[aCL,hj]
 rw[e3] at hu;exact hu
theorem aGO{w:World}{P:Nat->Prop}{ns:List ByteArray}{a:Option Addr}(h:Strs w P ns a):aFL w a ns.length (ns.map Value.string):=fun hn=>by
 obtain⟨b,off,e,-,hc⟩:=h.1 (List.length_pos_iff.1 hn);refine⟨_,e,fun j u hu=>?_⟩;rw[List.getElem?_map] at hu;obtain⟨s,hs,rfl⟩:=Option.map_eq_some_iff.1 hu;obtain⟨hj,rfl⟩:=List.getElem?_eq_some_iff.1 hs;rw[Addr.add_lit,hc j hj];simp[nth,List.getD_eq_getElem?_getD,hj]
theorem aEW(ns:List ByteArray):∀u∈ ns.map Value.string,u.oneCell'=true:=by
 intro u hu;simp at hu;obtain⟨x,-,rfl⟩:=hu;rfl
theorem aGG{w:World}{base g n cap:Nat}{ns:List ByteArray}(h:w.ownsRow base 9 1 (.slice (some ⟨g,0,none⟩) ns.length cap) ns.length (ns.map Value.string))(hs:∀i,(nth ns i).size<=maxLen)(hl:ns.length<=maxLen):Strs w (fun b=>base<=b∧b<w.heap.size) ns (some ⟨g,0,none⟩):=
 ⟨fun _=>⟨g,0,rfl,h.lt g rfl,fun i hi=>by
  rw[Nat.zero_add,h.cellAt i (by omega),List.getElem?_map]
  simp[nth,List.getD_eq_getElem?_getD,hi]⟩,hs,hl⟩
end Go.Proofs.YtcebpkeiaiiphaaGreatDoor
namespace Go.Proofs.YtcebpkeiaiiphaaGreatDoor
open Go.RowKit
def aG3(ts:List Pt)(n:Nat):Nat:=((List.range n).map fun i=>szP (pth ts i)).sum
theorem aIW(ts:List Pt)(n:Nat):aG3 ts (n+1)=aG3 ts n+szP (pth ts n):=by simp[aG3,List.range_succ]
def szPs(ts:List Pt):Nat:=ts.length+aG3 ts ts.length
theorem aM2(ts:List Pt)(k:Nat):∀n,k<n->szP (pth ts k)<=aG3 ts n
 |0,h=>by omega
 |n+1,h=>by
  rw[aIW];by_cases e:k=n
  ·subst e;omega
  ·have:=aM2 ts k n (by omega);omega
theorem aRV:(Tryz.prog.info? 46).map (fun i=>(i.zero,i.size,i.bytes))=some (some (.agg #[.string ByteArray.empty,.slice none 0 0]),2,40):=by kernel_rfl
set_option maxHeartbeats 400000 in
theorem aJR(ts:List Pt)(w:World)(B:Nat)(a:Option Addr)(c:Nat)(left:Int)(hK:aAP w (·<B) ts a)(hB:B<=w.heap.size)(hl0:0<=left)(hl1:left<=1048576):
  Calls Tryz.prog 7 #[.slice a ts.length c,.int .i64 left] w fun e w'=>∃x:Int,e=.returned (.int .i64 x)∧-1<=x∧x<=left∧(0<=x->x+szPs ts<=left)∧Below w.heap.size w w':=by
 obtain⟨h3,C,hA,hr⟩:=hK;by_cases hbig:left<ts.length
 ·go_enter Tryz.func7,Tryz.ntmps7
  go_wp2_with fail
  go_ret
  exact⟨-1,rfl,by omega,by omega,by omega,Below.refl _ _⟩
 by_cases hn0:ts.length=0
 ·have hns:ts=[]:=by simpa using hn0
  subst hns;go_enter Tryz.func7,Tryz.ntmps7
  go_wp2_with fail
  go_loop [1,5] (fun l i=>i=.int .i64 0∧l=.int .i64 left) (fun _ _=>0)
  case atStart=>exact⟨rfl,rfl⟩
  case round=>
   obtain⟨rfl,rfl⟩:=hrel;go_wp2_with fail
   go_ret
   exact⟨left,rfl,by omega,by omega,by simp[szPs,aG3],Below.refl _ _⟩
 ·obtain⟨b,off,rfl,hbB,hc⟩:=hA (by omega)
  go_enter Tryz.func7,Tryz.ntmps7
  go_wp2_with fail
  go_loopw [1,5] (fun l i wr=>∃(k:Nat) (x:Int),k<=ts.length∧i=.int .i64 k∧l=.int .i64 x∧0<=x∧x<=left∧x+aG3 ts k+ts.length<=left∧Below w.heap.size w wr) (fun _ i _=>ts.length- (intOf i).toNat)
  case atStart=>exact⟨0,_,Nat.zero_le _,rfl,rfl,by omega,by omega,by simp[aG3],Below.refl _ _⟩
  case round=>
   obtain⟨k,x,hk,rfl,rfl,hx0,hx1,hx2,hbel⟩:=hrel;have HX:Hid (x+aG3 ts k+ts.length<=left):=hx2;clear hx2;by_cases hlt:k<ts.length
   ·have hck:∀j,j<2->wr.cell? ⟨b,off+k*2+j,none⟩=some (C k j):=fun j hj=>(hbel.cell (p:=⟨b,off+k*2+j,none⟩) (by show b<_;omega)).trans (hc k hlt j hj)
    have hc0:wr.cell? ⟨b,off+k*2,none⟩=some (C k 0):=hck 0 (by omega)
    have hc1:=hck 1 (by omega)
    clear hck hc;go_wp2_with (go_at_call 25;refine(aPZ _ _ B _ x ((hr k hlt).under (hbel.mono hB)) (by have:=hbel.size;omega) hx0 (by omega)).mono ?_;rintro e w' ⟨y,rfl,hy0,hy1,hy2,hby⟩)
    ·go_ret
     exact⟨-1,rfl,by omega,by omega,by omega,hbel.trans (hby.mono hbel.size)⟩
    ·go_roundw
     case rel=>exact⟨k+1,y,by omega,by go_num,rfl,by assumption,by omega,by have:=HX.out;have:=hy2 (by assumption);rw[aIW];omega,hbel.trans (hby.mono hbel.size)⟩
     case measure=>simp[intOf];omega
   ·go_wp2_with fail
    go_ret
    have e:k=ts.length:=by omega
    exact⟨x,rfl,by omega,by omega,fun _=>by have:=HX.out;rw[szPs];rw[e] at this;omega,hbel⟩
set_option maxHeartbeats 800000 in
theorem aKR(xs:List Pt)(w:World)(B:Nat)(a:Option Addr)(c:Nat)(hK:aAP w (·<B) xs a)(hB:B<=w.heap.size):
  Calls Tryz.prog 9 #[.slice a xs.length c] w fun e w'=>e=.returned (.slice (some ⟨w.heap.size,0,none⟩) xs.length xs.length)∧Below w.heap.size w w'∧w.heap.size<w'.heap.size∧
   aAP w' (fun b=>w.heap.size<=b∧b<w'.heap.size) xs (some ⟨w.heap.size,0,none⟩)∧NF w.heap.size w':=by
 have h3:=hK.1;obtain⟨-,C,hA,hr⟩:=hK;have hmk:=aF6 (P:=Tryz.prog) 26 46 (.agg #[.string ByteArray.empty,.slice none 0 0]) #[.string ByteArray.empty,.slice none 0 0] rfl 2 40 Tryz.underlying26 aRV .i64 .i64 xs.length h3 (by omega)
 go_enter Tryz.func9,Tryz.ntmps9
 go_wp2_with fail
 go_loopw [4] (fun i wr=>∃(k:Nat) (G:Nat->Value),k<=xs.length∧i=.int .i64 k∧Below w.heap.size w wr∧wr.rowIs w.heap.size 46 (xs.length*2) G∧
   (∀i,i<k->PRep wr (fun b=>w.heap.size<b∧b<wr.heap.size) (pth xs i) (.agg #[G (i*2),G (i*2+1)]))∧NF w.heap.size wr) (fun i _=>xs.length- (intOf i).toNat)
 case atStart=>
  obtain⟨G,hG⟩:=aL7 w #[.string ByteArray.empty,.slice none 0 0] (xs.length*2) 46;exact⟨0,G,Nat.zero_le _,rfl,aA2 _ _,hG,fun i hi=>by omega,(NF.new w).alloc _ _⟩
 case round=>
  obtain⟨k,G,hk,rfl,hbel,hrow,hreps,hnf⟩:=hrel;have HNF:Hid (NF w.heap.size wr):=hnf;clear hnf;by_cases hlt:k<xs.length
  ·obtain⟨b,off,rfl,hbB,hc⟩:=hA (by omega)
   have hck:∀j,j<2->wr.cell? ⟨b,off+k*2+j,none⟩=some (C k j):=fun j hj=>(hbel.cell (p:=⟨b,off+k*2+j,none⟩) (by show b<_;omega)).trans (hc k hlt j hj)
   have hc0:wr.cell? ⟨b,off+k*2,none⟩=some (C k 0):=hck 0 (by omega)
   have hc1:wr.cell? ⟨b,off+k*2+1,none⟩=some (C k 1):=hck 1 (by omega)
   clear hck hc;go_wp2_with (
    go_at_call 28
    refine(aSB (pth xs k) _ B _ ((hr k hlt).under (hbel.mono hB)) (by have:=hbel.size;omega)).mono ?_
    rintro e w1 ⟨na,nc,rfl,hby,hry,hnf1⟩;have HN1:Hid (NF w.heap.size w1):=NF.call HNF.out hby hnf1;clear hnf1;have hrow1:=hrow.of_block (hby.block _ hrow.lt);have q0:w1.cell? ⟨w.heap.size,k*2,none⟩=some (G (k*2)):=hrow1.cell (by omega)
    have q1:w1.cell? ⟨w.heap.size,k*2+1,none⟩=some (G (k*2+1)):=hrow1.cell (by omega)
    have z0:∀j,w1.frozen? ⟨w.heap.size,j,none⟩=false:=fun j=>hrow1.frozen j)
   go_roundw
   case rel=>
    obtain⟨G',hG,hG1,hGF⟩:=aFP [.string (pth xs k).name,.slice na (pth xs k).types.length nc] (k*2) hrow1;have hs1:=hbel.size;have hs2:=hby.size;have hs3:=hrow.lt;have g0:G' (k*2)=.string (pth xs k).name:=hG1 0 (by simp)
    have g1:G' (k*2+1)=.slice na (pth xs k).types.length nc:=hG1 1 (by simp)
    have hpb:=aC6 w.heap.size;have hps:=aCC w.heap.size [.string (pth xs k).name,.slice na (pth xs k).types.length nc] w1 (k*2);refine⟨k+1,G',by omega,by go_num,aC5 (Nat.le_refl _) [.string (pth xs k).name,.slice na (pth xs k).types.length nc] w1 (k*2) (hbel.trans (hby.mono hs1)),hG,fun i hi=>?_,fun a ha=>by simp only[World.frozen?_setCell];exact HN1.out a ha⟩
    by_cases e1:i=k
    ·rw[e1,g0,g1];refine(hry.mono fun b hb=>hpb b (by omega) [.string (pth xs k).name,.slice na (pth xs k).types.length nc] w1 _).sub fun b hb=>⟨by omega,?_⟩
     show b<(puts w1 w.heap.size (k*2) [.string (pth xs k).name,.slice na (pth xs k).types.length nc]).heap.size;omega
    ·rw[hGF _ (by omega),hGF _ (by omega)]
     refine((hreps i (by omega)).mono fun b hb=>(hpb b (by omega) [.string (pth xs k).name,.slice na (pth xs k).types.length nc] w1 _).trans (hby.block b hb.2)).sub fun b hb=>⟨hb.1,?_⟩
     show b<(puts w1 w.heap.size (k*2) [.string (pth xs k).name,.slice na (pth xs k).types.length nc]).heap.size;omega
   case measure=>simp[intOf];omega
  ·go_wp2_with fail
   go_ret
   have e:k=xs.length:=by omega
   subst e;refine⟨rfl,hbel,hrow.lt,⟨h3,fun i j=>G (i*2+j),fun _=>⟨_,_,rfl,⟨Nat.le_refl _,hrow.lt⟩,fun i hi j hj=>?_⟩,fun i hi=>(hreps i hi).sub fun b hb=>⟨by omega,hb.2⟩⟩,HNF.out⟩
   have:=hrow.cell (i:=i*2+j) (by omega)
   simpa using this
set_option maxHeartbeats 800000 in
theorem aJC(ks:List Pt)(w:World)(B:Nat)(a a':Option Addr)(c c':Nat)(hK:aAP w (·<B) ks a)(hK':aAP w (·<B) ks a')(hB:B<=w.heap.size):
  Calls Tryz.prog 12 #[.slice a ks.length c,.slice a' ks.length c'] w fun e w'=>e=.returned (.bool true)∧Below w.heap.size w w':=by
 have h3:=hK.1;obtain⟨-,C,hA,hr⟩:=hK;obtain⟨-,C',hA',hr'⟩:=hK';by_cases hn0:ks.length=0
 ·have hns:ks=[]:=by simpa using hn0
  subst hns;go_enter Tryz.func12,Tryz.ntmps12
  go_wp2_with fail
  go_loop [5] (fun i=>i=.int .i64 0) (fun _=>0)
  case atStart=>rfl
  case round=>
   subst hrel;go_wp2_with fail
   go_ret
   exact⟨rfl,Below.refl _ _⟩
 ·obtain⟨b,off,rfl,hbB,hc⟩:=hA (by omega)
  obtain⟨b',off',rfl,hbB',hd⟩:=hA' (by omega)
  clear hA hA';go_enter Tryz.func12,Tryz.ntmps12
  go_wp2_with fail
  go_loopw [5] (fun i wr=>∃k:Nat,k<=ks.length∧i=.int .i64 k∧Below w.heap.size w wr) (fun i _=>ks.length- (intOf i).toNat)
  case atStart=>exact⟨0,Nat.zero_le _,rfl,Below.refl _ _⟩
  case round=>
   obtain⟨k,hk,rfl,hbel⟩:=hrel;by_cases hlt:k<ks.length
   ·have hck:∀j,j<2->wr.cell? ⟨b,off+k*2+j,none⟩=some (C k j):=fun j hj=>(hbel.cell (p:=⟨b,off+k*2+j,none⟩) (by show b<_;omega)).trans (hc k hlt j hj)
    have hc0:wr.cell? ⟨b,off+k*2,none⟩=some (C k 0):=hck 0 (by omega)
    have hc1:wr.cell? ⟨b,off+k*2+1,none⟩=some (C k 1):=hck 1 (by omega)
    clear hck hc;have hdk:∀j,j<2->wr.cell? ⟨b',off'+k*2+j,none⟩=some (C' k j):=fun j hj=>(hbel.cell (p:=⟨b',off'+k*2+j,none⟩) (by show b'<_;omega)).trans (hd k hlt j hj)
    have hd0:wr.cell? ⟨b',off'+k*2,none⟩=some (C' k 0):=hdk 0 (by omega)
    have hd1:wr.cell? ⟨b',off'+k*2+1,none⟩=some (C' k 1):=hdk 1 (by omega)
    clear hdk hd;go_wp2_with fail
    go_region_with (go_at_call 34;refine(aQF (pth ks k) _ B _ _ ((hr k hlt).under ((hbel.drew).mono hB)) ((hr' k hlt).under ((hbel.drew).mono hB)) (by have:=hbel.size;simp;omega)).mono ?_;rintro e w1 ⟨rfl,hby⟩)
    all_goals
     go_wp2_with fail
     go_roundw
     case rel=>exact⟨k+1,by omega,by go_num,hbel.drew.trans (hby.mono (by have:=hbel.size;simpa using this))⟩
     case measure=>simp[intOf];omega
   ·go_wp2_with fail
    go_ret
    exact⟨rfl,hbel⟩
end Go.Proofs.YtcebpkeiaiiphaaGreatDoor
