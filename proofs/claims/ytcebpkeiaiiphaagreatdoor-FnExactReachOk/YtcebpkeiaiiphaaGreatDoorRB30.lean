import Derived.Test.YtcebpkeiaiiphaaGreatDoorRB26
import Derived.Test.YtcebpkeiaiiphaaGreatDoorRB28
set_option linter.unusedSimpArgs false
set_option linter.unusedVariables false
namespace Go.Proofs.YtcebpkeiaiiphaaGreatDoor
open Go.RowKit Go.Maps
def fcl(f:F)(na:Option Addr)(nc:Nat):List Value:=[.string f.name,.string f.of,.bool f.list,.bool f.must,.bool f.far,.bool f.hidden,.bool f.shared,.slice na f.needs.length nc]
def aCM(w:World)(P:Nat→Prop)(L:List F)(xs:List Value):Prop:=xs.length=L.length*8∧∀i,i<L.length→∃(na:Option Addr) (nc:Nat),(∀j,j<8→xs[i*8+j]?=(fcl (fth L i) na nc)[j]?)∧FRep w P (fth L i) (.agg (fcl (fth L i) na nc).toArray)
theorem aCM.mono{w w':World}{P:Nat→Prop}{L:List F}{xs:List Value}(h:aCM w P L xs)(e:∀k,P k→w'.heap[k]?=w.heap[k]?):aCM w' P L xs:=
 ⟨h.1,fun i hi=>by obtain⟨na,nc,h1,h2⟩:=h.2 i hi;exact⟨na,nc,h1,h2.mono e⟩⟩
theorem aCM.nil(w:World)(P:Nat→Prop):aCM w P [] []:=⟨rfl,fun i hi=>absurd hi (Nat.not_lt_zero _)⟩
theorem aCM.snoc{w:World}{P:Nat→Prop}{L:List F}{xs:List Value}(h:aCM w P L xs){f:F}{na:Option Addr}{nc:Nat}(hf:FRep w P f (.agg (fcl f na nc).toArray)):aCM w P (L++[f]) (xs++fcl f na nc):=by
 refine⟨by rw[List.length_append,List.length_append,h.1];simp[fcl];omega,fun i hi=>?_⟩
 rw[List.length_append,List.length_singleton] at hi
 by_cases e:i<L.length
 ·have h1:fth (L++[f]) i=fth L i:=by simp[fth,List.getD_eq_getElem?_getD,List.getElem?_append_left e]
  obtain⟨na',nc',h2,h3⟩:=h.2 i e
  rw[h1]
  exact⟨na',nc',fun j hj=>by rw[List.getElem?_append_left (by rw[h.1];omega)];exact h2 j hj,h3⟩
 ·have:i=L.length:=by omega
  subst this
  have h1:fth (L++[f]) L.length=f:=by simp[fth,List.getD_eq_getElem?_getD]
  rw[h1]
  exact⟨na,nc,fun j hj=>by rw[List.getElem?_append_right (by rw[h.1];omega),h.1,Nat.add_sub_cancel_left],hf⟩
structure Su.Le(X:Su)(c:Nat):Prop where
 tn:X.tn.length≤c
 tf:∀nm,(X.tf nm).length≤c
 ky:∀nm,(X.ky nm).length≤c
 sd:∀nm n,(X.sd nm n).length≤c
 ow:∀nm n,(X.ow nm n).length≤c
theorem Su.Le.mono{X:Su}{c d:Nat}(h:X.Le c)(hd:c≤d):X.Le d:=⟨Nat.le_trans h.tn hd,fun a=>Nat.le_trans (h.tf a) hd,fun a=>Nat.le_trans (h.ky a) hd,fun a b=>Nat.le_trans (h.sd a b) hd,fun a b=>Nat.le_trans (h.ow a b) hd⟩
theorem Su.Le.key{X:Su}{c:Nat}(h:X.Le c)(t:T):(X.key t).Le (c+1):=by
 unfold Su.key
 split
 ·exact h.mono (by omega)
 ·refine⟨Nat.le_succ_of_le h.tn,fun a=>Nat.le_succ_of_le (h.tf a),fun a=>?_,fun a b=>Nat.le_succ_of_le (h.sd a b),fun a b=>Nat.le_succ_of_le (h.ow a b)⟩
  have:=h.ky a
  simp only
  split<;>simp<;>omega
def Su.fnm(X:Su)(nm n:ByteArray):Su:={ X with tn:=if(X.tf nm).length=0 then X.tn++[nm] else X.tn,tf:=fun m=>if m=nm then X.tf m++[n] else X.tf m }
def Su.fsd(X:Su)(nm:ByteArray)(f:F):Su:={ X with sd:=fun m n=>if m=nm∧n=f.name then X.sd m n++[f] else X.sd m n }
def Su.fow(X:Su)(i:Nat)(nm n':ByteArray):Su:={ X with ow:=fun m n=>if m=nm∧n=n' then X.ow m n++[i] else X.ow m n }
theorem aR5(X:Su)(i:Nat)(nm:ByteArray)(f:F):X.fld i nm f=(if f.far=true then((if(X.sd nm f.name).length=0 then X.fnm nm f.name else X).fsd nm f) else((if(X.sd nm f.name).length=0 then X.fnm nm f.name else X).fsd nm f).fow i nm f.name):=by
 unfold Su.fld Su.fnm Su.fsd Su.fow
 by_cases h1:(X.sd nm f.name).length=0
 ·by_cases h2:f.far=true
  ·simp[h1,h2]
  ·simp[h1,h2]
 ·by_cases h2:f.far=true
  ·simp[h1,h2]
  ·simp[h1,h2]
theorem Su.Le.fnm{X:Su}{c:Nat}(h:X.Le c)(nm n:ByteArray):(X.fnm nm n).Le (c+1):=by
 refine⟨?_,fun a=>?_,fun a=>Nat.le_succ_of_le (h.ky a),fun a b=>Nat.le_succ_of_le (h.sd a b),fun a b=>Nat.le_succ_of_le (h.ow a b)⟩
 ·have:=h.tn
  simp only[Su.fnm]
  split<;>simp<;>omega
 ·have:=h.tf a
  simp only[Su.fnm]
  split<;>simp<;>omega
theorem Su.Le.fsd{X:Su}{c:Nat}(h:X.Le c)(nm:ByteArray)(f:F):(X.fsd nm f).Le (c+1):=by
 refine⟨Nat.le_succ_of_le h.tn,fun a=>Nat.le_succ_of_le (h.tf a),fun a=>Nat.le_succ_of_le (h.ky a),fun a b=>?_,fun a b=>Nat.le_succ_of_le (h.ow a b)⟩
 have:=h.sd a b
 simp only[Su.fsd]
 split<;>simp<;>omega
theorem Su.Le.fow{X:Su}{c:Nat}(h:X.Le c)(i:Nat)(nm n:ByteArray):(X.fow i nm n).Le (c+1):=by
 refine⟨Nat.le_succ_of_le h.tn,fun a=>Nat.le_succ_of_le (h.tf a),fun a=>Nat.le_succ_of_le (h.ky a),fun a b=>Nat.le_succ_of_le (h.sd a b),fun a b=>?_⟩
 have:=h.ow a b
 simp only[Su.fow]
 split<;>simp<;>omega
structure Sv where
 kv1:Value
 kv2:Value
 kv3:Value
 kv4:Value
 m1:Nat
 m2:Nat
 m3:Nat
 m4:Nat
 f1:Nat→Prop
 f2:Nat→Prop
 f3:Nat→Prop
 f4:Nat→Prop
 g1:Value→List Value
 g2:Value→List Value
 g3:Value→List Value
 g4:Value→List Value
 n2:Nat
 n3:Nat
 n4:Nat
 s2:List Value
 s3:List Value
 s4:List Value
def Sv.cells(V:Sv)(pv:Value):Array Value:=#[pv,V.kv1,.map (some V.m1),V.kv2,.map (some V.m2),V.kv3,.map (some V.m3),V.kv4,.map (some V.m4)]
def Sv.fp(V:Sv)(b:Nat):Prop:=V.f1 b∨V.f2 b∨V.f3 b∨V.f4 b
structure SuL(w:World)(P:Nat→Prop)(B:Nat)(X:Su)(c:Nat)(V:Sv):Prop where
 l1:Lst w V.f1 SKy B 9 1 9 1 V.kv1 V.m1 X.tn.length (X.tn.map Value.string) V.g1
 e1:∀nm,V.g1 (.string nm)=(X.tf nm).map Value.string
 l2:Lst w V.f2 SKy B 9 1 9 1 V.kv2 V.m2 V.n2 V.s2 V.g2
 c2:V.n2≤c
 e2:∀nm,V.g2 (.string nm)=(X.ky nm).map Value.string
 l3:Lst w V.f3 FKy B 153 2 80 8 V.kv3 V.m3 V.n3 V.s3 V.g3
 c3:V.n3≤c
 e3:∀nm n,aCM w P (X.sd nm n) (V.g3 (fk nm n))
 l4:Lst w V.f4 FKy B 153 2 3 1 V.kv4 V.m4 V.n4 V.s4 V.g4
 c4:V.n4≤c
 e4:∀nm n,V.g4 (fk nm n)=(X.ow nm n).map fun(k:Nat)=>Value.int .i64 (k:Int)
 le:X.Le c
 dis:∀b,(V.f1 b→¬V.f2 b∧¬V.f3 b∧¬V.f4 b)∧(V.f2 b→¬V.f3 b∧¬V.f4 b)∧(V.f3 b→¬V.f4 b)
theorem SuL.bd{w:World}{P:Nat→Prop}{B:Nat}{X:Su}{c:Nat}{V:Sv}(h:SuL w P B X c V):∀b,V.fp b→B≤b∧b<w.heap.size:=fun b hb=>by
 rcases hb with hb| hb| hb| hb
 ·exact h.l1.bd b hb
 ·exact h.l2.bd b hb
 ·exact h.l3.bd b hb
 ·exact h.l4.bd b hb
theorem SuL.keep{w w':World}{P:Nat→Prop}{B:Nat}{X:Su}{c:Nat}{V:Sv}(h:SuL w P B X c V)(hk:∀b,V.fp b→w'.heap[b]?=w.heap[b]?)(hP:∀b,P b→w'.heap[b]?=w.heap[b]?)(hs:w.heap.size≤w'.heap.size):SuL w' P B X c V:=
 ⟨h.l1.keep (fun b hb=>hk b (.inl hb)) hs,h.e1,h.l2.keep (fun b hb=>hk b (.inr (.inl hb))) hs,h.c2,h.e2,h.l3.keep (fun b hb=>hk b (.inr (.inr (.inl hb)))) hs,h.c3,fun nm n=>(h.e3 nm n).mono hP,h.l4.keep (fun b hb=>hk b (.inr (.inr (.inr hb)))) hs,h.c4,h.e4,h.le,h.dis⟩
theorem SuL.mono{w:World}{P:Nat→Prop}{B:Nat}{X:Su}{c d:Nat}{V:Sv}(h:SuL w P B X c V)(hd:c≤d):SuL w P B X d V:=
 { h with c2:=Nat.le_trans h.c2 hd,c3:=Nat.le_trans h.c3 hd,c4:=Nat.le_trans h.c4 hd,le:=h.le.mono hd }
structure SuM(w:World)(P:Nat→Prop)(B sb:Nat)(pv:Value)(X:Su)(c:Nat)(V:Sv):Prop where
 l:SuL w P B X c V
 box:w.heap[sb]?=some (.cells (V.cells pv) 146 (0,0))
 out:¬V.fp sb
 lo:B≤sb
 args:∀b,P b→b<B
theorem SuM.keep{w w':World}{P:Nat→Prop}{B sb:Nat}{pv:Value}{X:Su}{c:Nat}{V:Sv}(h:SuM w P B sb pv X c V)(hw:Below w.heap.size w w'):SuM w' P B sb pv X c V:=by
 have hs:sb<w.heap.size:=(Array.getElem?_eq_some_iff.1 h.box).1
 exact⟨h.l.keep (fun b hb=>hw.block b (h.l.bd b hb).2) (fun b hb=>hw.block b (by have:=h.args b hb;have:=h.lo;omega)) hw.size,(hw.block sb hs).trans h.box,h.out,h.lo,h.args⟩
theorem SuM.mono{w:World}{P:Nat→Prop}{B sb:Nat}{pv:Value}{X:Su}{c d:Nat}{V:Sv}(h:SuM w P B sb pv X c V)(hd:c≤d):SuM w P B sb pv X d V:=⟨h.l.mono hd,h.box,h.out,h.lo,h.args⟩
def aH7(w:World)(P:Nat→Prop)(B sb:Nat)(pv:Value)(X:Su)(c:Nat)(V:Sv)(e:Ending)(w':World):Prop:=e=.returned (.tuple #[])∧∃V':Sv,SuM w' P B sb pv X c V'∧aBB (fun b=>V.fp b∨b=sb) w w'∧∀b,V'.fp b→V.fp b∨w.heap.size≤b
section
variable {w w':World} {P:Nat→Prop} {B sb:Nat} {pv:Value} {X:Su} {c:Nat} {V:Sv} {e:Ending}
theorem SuM.sblt(h:SuM w P B sb pv X c V):sb<w.heap.size:=(Array.getElem?_eq_some_iff.1 h.box).1
theorem SuM.add1(h:SuM w P B sb pv X c V){KL':Nat}{KS':List Value}{GL':Value→List Value}{nm n:ByteArray}(ha:aG6 w V.f1 SKy B 9 1 9 1 V.m1 sb 1 (V.cells pv) 146 (X.fnm nm n).tn.length ((X.fnm nm n).tn.map Value.string) GL' e w')(hg:∀m,GL' (.string m)=((X.fnm nm n).tf m).map Value.string):aH7 w P B sb pv (X.fnm nm n) (c+1) V e w':=by
 obtain⟨hr,⟨kv,F',hL,hb,hF⟩,ho⟩:=ha
 have hs:=h.sblt
 have hd:=h.l.dis
 have hk:∀b,b<w.heap.size→¬V.f1 b→b≠sb→w'.heap[b]?=w.heap[b]?:=fun b h1 h2 h3=>ho.block b h1 fun h4=>h4.elim h2 h3
 have h2:∀b,V.f2 b→w'.heap[b]?=w.heap[b]?:=fun b hb=>hk b (h.l.l2.bd b hb).2 (fun h1=>((hd b).1 h1).1 hb) fun e=>h.out (e▸.inr (.inl hb))
 have h3:∀b,V.f3 b→w'.heap[b]?=w.heap[b]?:=fun b hb=>hk b (h.l.l3.bd b hb).2 (fun h1=>((hd b).1 h1).2.1 hb) fun e=>h.out (e▸.inr (.inr (.inl hb)))
 have h4:∀b,V.f4 b→w'.heap[b]?=w.heap[b]?:=fun b hb=>hk b (h.l.l4.bd b hb).2 (fun h1=>((hd b).1 h1).2.2 hb) fun e=>h.out (e▸.inr (.inr (.inr hb)))
 have hp:∀b,P b→w'.heap[b]?=w.heap[b]?:=fun b hb=>hk b (by have:=h.args b hb;have:=h.lo;omega) (fun h1=>by have:=h.args b hb;have:=(h.l.l1.bd b h1).1;omega) (by have:=h.args b hb;have:=h.lo;omega)
 refine⟨hr,{ V with kv1:=kv,f1:=F',g1:=GL' },⟨⟨hL,hg,h.l.l2.keep h2 ho.size,Nat.le_succ_of_le h.l.c2,h.l.e2,h.l.l3.keep h3 ho.size,Nat.le_succ_of_le h.l.c3,fun a b=>(h.l.e3 a b).mono hp,h.l.l4.keep h4 ho.size,Nat.le_succ_of_le h.l.c4,h.l.e4,h.l.le.fnm nm n,fun b=>⟨fun h1=>?_,(hd b).2⟩⟩,hb,fun h1=>?_,h.lo,h.args⟩,⟨ho.os,ho.tape,ho.output,ho.size,fun b hb hn=>ho.block b hb fun h1=>hn (h1.imp .inl id)⟩,fun b h1=>?_⟩
 ·rcases hF b h1 with h5| h5
  ·exact(hd b).1 h5
  ·exact⟨fun q=>by have:=(h.l.l2.bd b q).2;omega,fun q=>by have:=(h.l.l3.bd b q).2;omega,fun q=>by have:=(h.l.l4.bd b q).2;omega⟩
 ·rcases h1 with h1| h1
  ·rcases hF sb h1 with h5| h5
   ·exact h.out (.inl h5)
   ·omega
  ·exact h.out (.inr h1)
 ·rcases h1 with h1| h1
  ·exact(hF b h1).imp .inl id
  ·exact .inl (.inr h1)
theorem SuM.add2(h:SuM w P B sb pv X c V){KL':Nat}{KS':List Value}{GL':Value→List Value}{t:T}(hk1:KL'≤c+1)(ha:aG6 w V.f2 SKy B 9 1 9 1 V.m2 sb 3 (V.cells pv) 146 KL' KS' GL' e w')(hg:∀m,GL' (.string m)=((X.key t).ky m).map Value.string):aH7 w P B sb pv (X.key t) (c+1) V e w':=by
 obtain⟨hr,⟨kv,F',hL,hb,hF⟩,ho⟩:=ha
 have hs:=h.sblt
 have hd:=h.l.dis
 obtain⟨q1,q2,q3⟩:(X.key t).tn=X.tn∧(X.key t).tf=X.tf∧(X.key t).sd=X.sd:=by unfold Su.key;split<;>exact⟨rfl,rfl,rfl⟩
 have q4:(X.key t).ow=X.ow:=by unfold Su.key;split<;>rfl
 have hk:∀b,b<w.heap.size→¬V.f2 b→b≠sb→w'.heap[b]?=w.heap[b]?:=fun b h1 h2 h3=>ho.block b h1 fun h4=>h4.elim h2 h3
 have h1:∀b,V.f1 b→w'.heap[b]?=w.heap[b]?:=fun b hb=>hk b (h.l.l1.bd b hb).2 (fun h2=>((hd b).1 hb).1 h2) fun e=>h.out (e▸.inl hb)
 have h3:∀b,V.f3 b→w'.heap[b]?=w.heap[b]?:=fun b hb=>hk b (h.l.l3.bd b hb).2 (fun h1=>((hd b).2.1 h1).1 hb) fun e=>h.out (e▸.inr (.inr (.inl hb)))
 have h4:∀b,V.f4 b→w'.heap[b]?=w.heap[b]?:=fun b hb=>hk b (h.l.l4.bd b hb).2 (fun h1=>((hd b).2.1 h1).2 hb) fun e=>h.out (e▸.inr (.inr (.inr hb)))
 have hp:∀b,P b→w'.heap[b]?=w.heap[b]?:=fun b hb=>hk b (by have:=h.args b hb;have:=h.lo;omega) (fun h1=>by have:=h.args b hb;have:=(h.l.l2.bd b h1).1;omega) (by have:=h.args b hb;have:=h.lo;omega)
 refine⟨hr,{ V with kv2:=kv,f2:=F',g2:=GL',n2:=KL',s2:=KS' },⟨⟨by rw[q1];exact h.l.l1.keep h1 ho.size,fun a=>by rw[q2];exact h.l.e1 a,hL,hk1,hg,h.l.l3.keep h3 ho.size,Nat.le_succ_of_le h.l.c3,fun a b=>by rw[q3];exact(h.l.e3 a b).mono hp,h.l.l4.keep h4 ho.size,Nat.le_succ_of_le h.l.c4,fun a b=>by rw[q4];exact h.l.e4 a b,h.l.le.key t,fun b=>⟨fun h1=>⟨fun h2=>?_,((hd b).1 h1).2⟩,fun h1=>?_,(hd b).2.2⟩⟩,hb,fun h1=>?_,h.lo,h.args⟩,⟨ho.os,ho.tape,ho.output,ho.size,fun b hb hn=>ho.block b hb fun h1=>hn (h1.imp (fun x=>.inr (.inl x)) id)⟩,fun b h1=>?_⟩
 ·rcases hF b h2 with h5| h5
  ·exact((hd b).1 h1).1 h5
  ·have:=(h.l.l1.bd b h1).2;omega
 ·rcases hF b h1 with h5| h5
  ·exact(hd b).2.1 h5
  ·exact⟨fun q=>by have:=(h.l.l3.bd b q).2;omega,fun q=>by have:=(h.l.l4.bd b q).2;omega⟩
 ·rcases h1 with h1| h1| h1
  ·exact h.out (.inl h1)
  ·rcases hF sb h1 with h5| h5
   ·exact h.out (.inr (.inl h5))
   ·omega
  ·exact h.out (.inr (.inr h1))
 ·rcases h1 with h1| h1| h1
  ·exact .inl (.inl h1)
  ·exact(hF b h1).imp (fun x=>.inr (.inl x)) id
  ·exact .inl (.inr (.inr h1))
theorem SuM.add3(h:SuM w P B sb pv X c V){KL':Nat}{KS':List Value}{GL':Value→List Value}{nm:ByteArray}{f:F}(hk1:KL'≤c+1)(ha:aG6 w V.f3 FKy B 153 2 80 8 V.m3 sb 5 (V.cells pv) 146 KL' KS' GL' e w')(hg:∀a b,aCM w P ((X.fsd nm f).sd a b) (GL' (fk a b))):aH7 w P B sb pv (X.fsd nm f) (c+1) V e w':=by
 obtain⟨hr,⟨kv,F',hL,hb,hF⟩,ho⟩:=ha
 have hs:=h.sblt
 have hd:=h.l.dis
 have hk:∀b,b<w.heap.size→¬V.f3 b→b≠sb→w'.heap[b]?=w.heap[b]?:=fun b h1 h2 h3=>ho.block b h1 fun h4=>h4.elim h2 h3
 have h1:∀b,V.f1 b→w'.heap[b]?=w.heap[b]?:=fun b hb=>hk b (h.l.l1.bd b hb).2 (fun h2=>((hd b).1 hb).2.1 h2) fun e=>h.out (e▸.inl hb)
 have h2:∀b,V.f2 b→w'.heap[b]?=w.heap[b]?:=fun b hb=>hk b (h.l.l2.bd b hb).2 (fun h2=>((hd b).2.1 hb).1 h2) fun e=>h.out (e▸.inr (.inl hb))
 have h4:∀b,V.f4 b→w'.heap[b]?=w.heap[b]?:=fun b hb=>hk b (h.l.l4.bd b hb).2 (fun h1=>((hd b).2.2 h1) hb) fun e=>h.out (e▸.inr (.inr (.inr hb)))
 have hp:∀b,P b→w'.heap[b]?=w.heap[b]?:=fun b hb=>hk b (by have:=h.args b hb;have:=h.lo;omega) (fun h1=>by have:=h.args b hb;have:=(h.l.l3.bd b h1).1;omega) (by have:=h.args b hb;have:=h.lo;omega)
 refine⟨hr,{ V with kv3:=kv,f3:=F',g3:=GL',n3:=KL',s3:=KS' },⟨⟨h.l.l1.keep h1 ho.size,h.l.e1,h.l.l2.keep h2 ho.size,Nat.le_succ_of_le h.l.c2,h.l.e2,hL,hk1,fun a b=>(hg a b).mono hp,h.l.l4.keep h4 ho.size,Nat.le_succ_of_le h.l.c4,h.l.e4,h.l.le.fsd nm f,fun b=>⟨fun h1=>⟨((hd b).1 h1).1,fun h2=>?_,((hd b).1 h1).2.2⟩,fun h1=>⟨fun h2=>?_,((hd b).2.1 h1).2⟩,fun h1=>?_⟩⟩,hb,fun h1=>?_,h.lo,h.args⟩,⟨ho.os,ho.tape,ho.output,ho.size,fun b hb hn=>ho.block b hb fun h1=>hn (h1.imp (fun x=>.inr (.inr (.inl x))) id)⟩,fun b h1=>?_⟩
 ·rcases hF b h2 with h5| h5
  ·exact((hd b).1 h1).2.1 h5
  ·have:=(h.l.l1.bd b h1).2;omega
 ·rcases hF b h2 with h5| h5
  ·exact((hd b).2.1 h1).1 h5
  ·have:=(h.l.l2.bd b h1).2;omega
 ·rcases hF b h1 with h5| h5
  ·exact(hd b).2.2 h5
  ·exact fun q=>by have:=(h.l.l4.bd b q).2;omega
 ·rcases h1 with h1| h1| h1| h1
  ·exact h.out (.inl h1)
  ·exact h.out (.inr (.inl h1))
  ·rcases hF sb h1 with h5| h5
   ·exact h.out (.inr (.inr (.inl h5)))
   ·omega
  ·exact h.out (.inr (.inr (.inr h1)))
 ·rcases h1 with h1| h1| h1| h1
  ·exact .inl (.inl h1)
  ·exact .inl (.inr (.inl h1))
  ·exact(hF b h1).imp (fun x=>.inr (.inr (.inl x))) id
  ·exact .inl (.inr (.inr (.inr h1)))
theorem SuM.add4(h:SuM w P B sb pv X c V){KL':Nat}{KS':List Value}{GL':Value→List Value}{i:Nat}{nm n:ByteArray}(hk1:KL'≤c+1)(ha:aG6 w V.f4 FKy B 153 2 3 1 V.m4 sb 7 (V.cells pv) 146 KL' KS' GL' e w')(hg:∀a b,GL' (fk a b)=((X.fow i nm n).ow a b).map fun(k:Nat)=>Value.int .i64 (k:Int)):aH7 w P B sb pv (X.fow i nm n) (c+1) V e w':=by
 obtain⟨hr,⟨kv,F',hL,hb,hF⟩,ho⟩:=ha
 have hs:=h.sblt
 have hd:=h.l.dis
 have hk:∀b,b<w.heap.size→¬V.f4 b→b≠sb→w'.heap[b]?=w.heap[b]?:=fun b h1 h2 h3=>ho.block b h1 fun h4=>h4.elim h2 h3
 have h1:∀b,V.f1 b→w'.heap[b]?=w.heap[b]?:=fun b hb=>hk b (h.l.l1.bd b hb).2 (fun h2=>((hd b).1 hb).2.2 h2) fun e=>h.out (e▸.inl hb)
 have h2:∀b,V.f2 b→w'.heap[b]?=w.heap[b]?:=fun b hb=>hk b (h.l.l2.bd b hb).2 (fun h2=>((hd b).2.1 hb).2 h2) fun e=>h.out (e▸.inr (.inl hb))
 have h3:∀b,V.f3 b→w'.heap[b]?=w.heap[b]?:=fun b hb=>hk b (h.l.l3.bd b hb).2 (fun h1=>((hd b).2.2 hb) h1) fun e=>h.out (e▸.inr (.inr (.inl hb)))
 have hp:∀b,P b→w'.heap[b]?=w.heap[b]?:=fun b hb=>hk b (by have:=h.args b hb;have:=h.lo;omega) (fun h1=>by have:=h.args b hb;have:=(h.l.l4.bd b h1).1;omega) (by have:=h.args b hb;have:=h.lo;omega)
 refine⟨hr,{ V with kv4:=kv,f4:=F',g4:=GL',n4:=KL',s4:=KS' },⟨⟨h.l.l1.keep h1 ho.size,h.l.e1,h.l.l2.keep h2 ho.size,Nat.le_succ_of_le h.l.c2,h.l.e2,h.l.l3.keep h3 ho.size,Nat.le_succ_of_le h.l.c3,fun a b=>(h.l.e3 a b).mono hp,hL,hk1,hg,h.l.le.fow i nm n,fun b=>⟨fun h1=>⟨((hd b).1 h1).1,((hd b).1 h1).2.1,fun h2=>?_⟩,fun h1=>⟨((hd b).2.1 h1).1,fun h2=>?_⟩,fun h1 h2=>?_⟩⟩,hb,fun h1=>?_,h.lo,h.args⟩,⟨ho.os,ho.tape,ho.output,ho.size,fun b hb hn=>ho.block b hb fun h1=>hn (h1.imp (fun x=>.inr (.inr (.inr x))) id)⟩,fun b h1=>?_⟩
 ·rcases hF b h2 with h5| h5
  ·exact((hd b).1 h1).2.2 h5
  ·have:=(h.l.l1.bd b h1).2;omega
 ·rcases hF b h2 with h5| h5
  ·exact((hd b).2.1 h1).2 h5
  ·have:=(h.l.l2.bd b h1).2;omega
 ·rcases hF b h2 with h5| h5
  ·exact(hd b).2.2 h1 h5
  ·have:=(h.l.l3.bd b h1).2;omega
 ·rcases h1 with h1| h1| h1| h1
  ·exact h.out (.inl h1)
  ·exact h.out (.inr (.inl h1))
  ·exact h.out (.inr (.inr (.inl h1)))
  ·rcases hF sb h1 with h5| h5
   ·exact h.out (.inr (.inr (.inr h5)))
   ·omega
 ·rcases h1 with h1| h1| h1| h1
  ·exact .inl (.inl h1)
  ·exact .inl (.inr (.inl h1))
  ·exact .inl (.inr (.inr (.inl h1)))
  ·exact(hF b h1).imp (fun x=>.inr (.inr (.inr x))) id
end
open Classical in
noncomputable def updG(g:Value→List Value)(k:Value)(xs:List Value):Value→List Value:=fun v=>if v=k then g v++xs else g v
theorem aD9(g:Value→List Value)(k:Value)(xs:List Value):updG g k xs k=g k++xs:=by unfold updG;rw[if_pos rfl]
theorem aCF(g:Value→List Value)(k:Value)(xs:List Value)(y:Value)(h:y≠k):updG g k xs y=g y:=by unfold updG;rw[if_neg h]
theorem aHN(old:List Value)(KL:Nat)(KS kc:List Value):∃KL' KS',aFH old KL KS kc KL' KS'∧KL'≤KL+1:=by
 by_cases h:old=[]
 ·exact⟨KL+1,KS++kc,.inl ⟨h,rfl,rfl⟩,Nat.le_refl _⟩
 ·exact⟨KL,KS,.inr ⟨h,rfl,rfl⟩,by omega⟩
section
variable {w:World} {P:Nat→Prop} {B sb:Nat} {pv:Value} {X:Su} {c:Nat} {V:Sv}
theorem aME(h:SuM w P B sb pv X c V)(nm n:ByteArray)(hc:c≤100000):
  Calls Tryz.prog 144 #[.pointer (some ⟨sb,1,none⟩),.string nm,.string n] w (aH7 w P B sb pv (X.fnm nm n) (c+1) V):=by
 have h1:=h.l.le.tn
 have h2:=h.l.le.tf nm
 have hk:aFH (V.g1 (.string nm)) X.tn.length (X.tn.map Value.string) [.string nm] (X.fnm nm n).tn.length ((X.fnm nm n).tn.map Value.string):=by
  rw[h.l.e1]
  simp only[Su.fnm]
  by_cases e:(X.tf nm).length=0
  ·rw[if_pos e]
   exact .inl ⟨by simpa using e,by simp,by simp⟩
  ·rw[if_neg e]
   exact .inr ⟨by simpa using e,rfl,rfl⟩
 refine(aO7 w w (aA0 rfl) V.f1 B V.kv1 V.m1 X.tn.length (X.fnm nm n).tn.length _ _ V.g1 (updG V.g1 (.string nm) [.string n]) sb 1 (V.cells pv) 146 nm n h.l.l1 h.box rfl rfl (fun e=>h.out (.inl e)) (by omega) (by rw[h.l.e1,List.length_map];omega) hk (aD9 _ _ _) (aCF _ _ _)).mono fun e w' ha=>h.add1 (KL':=0) (KS':=[]) ha fun m=>?_
 by_cases e:m=nm
 ·subst e
  rw[aD9,h.l.e1]
  simp[Su.fnm]
 ·rw[aCF _ _ _ _ (fun e2=>e (Value.string.inj e2)),h.l.e1]
  simp only[Su.fnm]
  rw[if_neg e]
theorem aND(h:SuM w P B sb pv X c V)(t:T)(ht:t.key.toList.isEmpty=false)(hc:c≤100000):
  Calls Tryz.prog 144 #[.pointer (some ⟨sb,3,none⟩),.string t.name,.string t.key] w (aH7 w P B sb pv (X.key t) (c+1) V):=by
 have h2:=h.l.le.ky t.name
 have h3:=h.l.c2
 obtain⟨KL',KS',hk,hKL⟩:=aHN (V.g2 (.string t.name)) V.n2 V.s2 [.string t.name]
 refine(aO7 w w (aA0 rfl) V.f2 B V.kv2 V.m2 V.n2 KL' V.s2 KS' V.g2 (updG V.g2 (.string t.name) [.string t.key]) sb 3 (V.cells pv) 146 t.name t.key h.l.l2 h.box rfl rfl (fun e=>h.out (.inr (.inl e))) (by omega) (by rw[h.l.e2,List.length_map];omega) hk (aD9 _ _ _) (aCF _ _ _)).mono fun e w' ha=>h.add2 (by omega) ha fun m=>?_
 have hky:(X.key t).ky=fun m=>if m=t.name then X.ky m++[t.key] else X.ky m:=by unfold Su.key;rw[ht];rfl
 rw[hky]
 by_cases e:m=t.name
 ·rw[e,aD9,h.l.e2]
  simp
 ·rw[aCF _ _ _ _ (fun e2=>e (Value.string.inj e2)),h.l.e2]
  simp only
  rw[if_neg e]
theorem aLD(h:SuM w P B sb pv X c V)(nm:ByteArray)(f:F)(na:Option Addr)(nc:Nat)(hf:FRep w P f (.agg (fcl f na nc).toArray))(hc:c≤100000):
  Calls Tryz.prog 145 #[.pointer (some ⟨sb,5,none⟩),.agg #[.string nm,.string f.name],.agg #[.string f.name,.string f.of,.bool f.list,.bool f.must,.bool f.far,.bool f.hidden,.bool f.shared,.slice na f.needs.length nc]] w (aH7 w P B sb pv (X.fsd nm f) (c+1) V):=by
 have h2:=h.l.le.sd nm f.name
 have h3:=h.l.c3
 have h4:=h.l.e3 nm f.name
 obtain⟨KL',KS',hk,hKL⟩:=aHN (V.g3 (fk nm f.name)) V.n3 V.s3 [.string nm,.string f.name]
 refine(aQZ w V.f3 B V.kv3 V.m3 V.n3 KL' V.s3 KS' V.g3 (updG V.g3 (fk nm f.name) (fcl f na nc)) sb 5 (V.cells pv) 146 nm f.name f na f.needs.length nc h.l.l3 h.box rfl rfl (fun e=>h.out (.inr (.inr (.inl e)))) (by omega) (by rw[h4.1];omega) hk (aD9 _ _ _) (aCF _ _ _)).mono fun e w' ha=>h.add3 (by omega) ha fun a b=>?_
 simp only[Su.fsd]
 by_cases e:a=nm∧b=f.name
 ·obtain⟨rfl,rfl⟩:=e
  rw[aD9,if_pos ⟨rfl,rfl⟩]
  exact h4.snoc hf
 ·rw[aCF _ _ _ _ (fun e2=>e (aTR e2)),if_neg e]
  exact h.l.e3 a b
theorem aLG(h:SuM w P B sb pv X c V)(nm n:ByteArray)(i:Nat)(hc:c≤100000):
  Calls Tryz.prog 146 #[.pointer (some ⟨sb,7,none⟩),.agg #[.string nm,.string n],.int .i64 (i:Int)] w (aH7 w P B sb pv (X.fow i nm n) (c+1) V):=by
 have h2:=h.l.le.ow nm n
 have h3:=h.l.c4
 have h4:=h.l.e4 nm n
 obtain⟨KL',KS',hk,hKL⟩:=aHN (V.g4 (fk nm n)) V.n4 V.s4 [.string nm,.string n]
 refine(aQO w V.f4 B V.kv4 V.m4 V.n4 KL' V.s4 KS' V.g4 (updG V.g4 (fk nm n) [.int .i64 (i:Int)]) sb 7 (V.cells pv) 146 nm n (i:Int) h.l.l4 h.box rfl rfl (fun e=>h.out (.inr (.inr (.inr e)))) (by omega) (by rw[h4,List.length_map];omega) hk (aD9 _ _ _) (aCF _ _ _)).mono fun e w' ha=>h.add4 (by omega) ha fun a b=>?_
 simp only[Su.fow]
 by_cases e:a=nm∧b=n
 ·obtain⟨rfl,rfl⟩:=e
  rw[aD9,if_pos ⟨rfl,rfl⟩,h4]
  simp
 ·rw[aCF _ _ _ _ (fun e2=>e (aTR e2)),if_neg e]
  exact h.l.e4 a b
end
def InvY(w0:World)(P:Nat→Prop)(B sb:Nat)(pv:Value)(V:Sv)(X:Su)(c:Nat)(wx:World):Prop:=∃V1:Sv,SuM wx P B sb pv X c V1∧aBB (fun b=>V.fp b∨b=sb) w0 wx∧∀b,V1.fp b→V.fp b∨w0.heap.size≤b
section
variable {w0 wx wy:World} {P:Nat→Prop} {B sb:Nat} {pv:Value} {X X':Su} {c c':Nat} {V:Sv}
theorem InvY.below(h:InvY w0 P B sb pv V X c wx)(hb:Below wx.heap.size wx wy):InvY w0 P B sb pv V X c wy:=by
 obtain⟨V1,h1,h2,h3⟩:=h
 exact⟨V1,h1.keep hb,h2.trans (aBB.of_below (O:=fun b=>V.fp b∨b=sb) hb) (fun _ _ h=>h) fun _ _ h=>h,h3⟩
theorem InvY.step{V1:Sv}(h2:aBB (fun b=>V.fp b∨b=sb) w0 wx)(h3:∀b,V1.fp b→V.fp b∨w0.heap.size≤b){e:Ending}(hE:aH7 wx P B sb pv X' c' V1 e wy):InvY w0 P B sb pv V X' c' wy:=by
 obtain⟨-,V',q1,q2,q3⟩:=hE
 refine⟨V',q1,h2.trans q2 (fun _ _ h=>h) fun b hb h=>?_,fun b hb=>?_⟩
 ·rcases h with h| h
  ·rcases h3 b h with h4| h4
   ·exact .inl h4
   ·omega
  ·exact .inr h
 ·rcases q3 b hb with h| h
  ·exact h3 b h
  ·exact .inr (Nat.le_trans h2.size h)
theorem InvY.mono(h:InvY w0 P B sb pv V X c wx)(hc:c≤c'):InvY w0 P B sb pv V X c' wx:=by
 obtain⟨V1,h1,h2,h3⟩:=h
 exact⟨V1,h1.mono hc,h2,h3⟩
theorem InvY.size(h:InvY w0 P B sb pv V X c wx):w0.heap.size≤wx.heap.size:=by
 obtain⟨V1,h1,h2,h3⟩:=h
 exact h2.size
theorem InvY.block(h:InvY w0 P B sb pv V X c wx){b:Nat}(hb:b<w0.heap.size)(hn:¬V.fp b)(hs:b≠sb):wx.heap[b]?=w0.heap[b]?:=by
 obtain⟨V1,h1,h2,h3⟩:=h
 exact h2.block b hb fun h=>h.elim hn hs
end
end Go.Proofs.YtcebpkeiaiiphaaGreatDoor
namespace Go.Proofs.YtcebpkeiaiiphaaGreatDoor
open Go.RowKit
def putS(g f:F):F:={ g with hidden:=g.hidden||f.hidden,needs:=if f.needs.length=0 then g.needs else f.needs }
def newS(f:F):F:=⟨f.name,f.of,f.list,f.must,false,f.hidden,false,f.needs⟩
def aCO:List F→F
 |[]=>F.zero
 |f::r=>r.foldl putS (newS f)
theorem aPS(L:List F)(f:F)(h:L≠[]):aCO (L++[f])=putS (aCO L) f:=by
 cases L with
 |nil=>exact absurd rfl h
 |cons a r=>simp[aCO,List.foldl_append]
theorem aKR:∀(r:List F) (g:F),(r.foldl putS g).name=g.name
 |[],_=>rfl
 |a::r,g=>by rw[List.foldl_cons,aKR r];rfl
theorem aPB{L:List F}{n:ByteArray}(h:L≠[])(hn:∀f∈ L,f.name=n):(aCO L).name=n:=by
 cases L with
 |nil=>exact absurd rfl h
 |cons a r=>rw[aCO,aKR];exact hn a (by simp)
structure SuOk(X:Su):Prop where
 nd:X.tn.Nodup
 mem:∀nm,nm∈ X.tn↔X.tf nm≠[]
 fnd:∀nm,(X.tf nm).Nodup
 fmem:∀nm n,n∈ X.tf nm↔X.sd nm n≠[]
 nam:∀nm n f,f∈ X.sd nm n→f.name=n
theorem SuOk.zero:SuOk Su.zero:=⟨List.nodup_nil,fun nm=>by simp[Su.zero],fun nm=>List.nodup_nil,fun nm n=>by simp[Su.zero],fun nm n f h=>by simp[Su.zero] at h⟩
theorem aOH(X:Su)(t:T):(X.key t).tn=X.tn∧(X.key t).tf=X.tf∧(X.key t).sd=X.sd:=by
 unfold Su.key
 split
 ·exact⟨rfl,rfl,rfl⟩
 ·exact⟨rfl,rfl,rfl⟩
theorem SuOk.key{X:Su}(h:SuOk X)(t:T):SuOk (X.key t):=by
 obtain⟨h1,h2,h3⟩:=aOH X t
 exact⟨by rw[h1];exact h.nd,fun nm=>by rw[h1,h2];exact h.mem nm,fun nm=>by rw[h2];exact h.fnd nm,fun nm n=>by rw[h2,h3];exact h.fmem nm n,fun nm n f hf=>h.nam nm n f (by rw[h3] at hf;exact hf)⟩
theorem len0{α:Type}{l:List α}:l.length=0↔l=[]:=List.length_eq_zero_iff
theorem SuOk.fld{X:Su}(h:SuOk X)(i:Nat)(nm:ByteArray)(f:F):SuOk (X.fld i nm f):=by
 have hsd:∀m n,(X.fld i nm f).sd m n=if m=nm∧n=f.name then X.sd m n++[f] else X.sd m n:=fun _ _=>rfl
 have htf:∀m,(X.fld i nm f).tf m=if(X.sd nm f.name).length=0∧m=nm then X.tf m++[f.name] else X.tf m:=fun m=>by
  show(if(X.sd nm f.name).length=0 then(fun m=>if m=nm then X.tf m++[f.name] else X.tf m) else X.tf) m=_
  by_cases e:(X.sd nm f.name).length=0
  ·rw[if_pos e]
   by_cases e2:m=nm
   ·exact(if_pos e2).trans (if_pos ⟨e,e2⟩).symm
   ·exact(if_neg e2).trans (if_neg (fun h=>e2 h.2)).symm
  ·rw[if_neg e,if_neg (fun h=>e h.1)]
 have htn:(X.fld i nm f).tn=if(X.sd nm f.name).length=0∧(X.tf nm).length=0 then X.tn++[nm] else X.tn:=rfl
 have h0:(X.tf nm).length=0→(X.sd nm f.name).length=0:=fun e=>by
  rw[len0] at e ⊢
  by_cases e2:X.sd nm f.name=[]
  ·exact e2
  ·have:=(h.fmem nm f.name).2 e2
   rw[e] at this
   cases this
 refine⟨?_,fun m=>?_,fun m=>?_,fun m n=>?_,fun m n g hg=>?_⟩
 ·rw[htn]
  split
  ·rename_i e
   rw[List.nodup_append]
   refine⟨h.nd,by simp,fun a ha b hb=>?_⟩
   rw[List.mem_singleton] at hb
   subst hb
   rintro rfl
   exact(h.mem a).1 ha (len0.1 e.2)
  ·exact h.nd
 ·rw[htn,htf]
  by_cases e:(X.tf nm).length=0
  ·rw[if_pos ⟨h0 e,e⟩]
   by_cases e2:m=nm
   ·rw[if_pos ⟨h0 e,e2⟩];simp[e2]
   ·rw[if_neg (fun h=>e2 h.2),List.mem_append,List.mem_singleton,h.mem m]
    exact⟨fun h=>h.resolve_right e2,Or.inl⟩
  ·rw[if_neg (fun h=>e h.2),h.mem m]
   by_cases e2:(X.sd nm f.name).length=0∧m=nm
   ·rw[if_pos e2,e2.2]
    exact⟨fun _=>by simp,fun _ e3=>e (len0.2 e3)⟩
   ·rw[if_neg e2]
 ·rw[htf]
  split
  ·rename_i e
   rw[List.nodup_append]
   refine⟨h.fnd m,by simp,fun a ha b hb=>?_⟩
   rw[List.mem_singleton] at hb
   subst hb
   rintro rfl
   exact(h.fmem m f.name).1 ha (by rw[e.2];exact len0.1 e.1)
  ·exact h.fnd m
 ·rw[htf,hsd]
  by_cases e:m=nm∧n=f.name
  ·rw[if_pos e]
   obtain⟨rfl,rfl⟩:=e
   refine⟨fun _=>by simp,fun _=>?_⟩
   by_cases e2:(X.sd m f.name).length=0
   ·rw[if_pos ⟨e2,rfl⟩];simp
   ·rw[if_neg (fun h=>e2 h.1)]
    exact(h.fmem m f.name).2 fun e3=>e2 (len0.2 e3)
  ·rw[if_neg e,←h.fmem m n]
   split
   ·rename_i e2
    rw[List.mem_append,List.mem_singleton]
    exact⟨fun h=>h.resolve_right fun e3=>e ⟨e2.2,e3⟩,Or.inl⟩
   ·exact Iff.rfl
 ·rw[hsd] at hg
  split at hg
  ·rename_i e
   rw[List.mem_append,List.mem_singleton] at hg
   rcases hg with hg| rfl
   ·exact h.nam m n g hg
   ·exact e.2.symm
  ·exact h.nam m n g hg
theorem SuOk.flds{X:Su}(h:SuOk X)(i:Nat)(t:T):∀l,SuOk (X.flds i t l)
 |0=>h
 |l+1=>(SuOk.flds h i t l).fld i _ _
theorem SuOk.tys{X:Su}(h:SuOk X)(i:Nat)(p:Pt):∀k,SuOk (X.tys i p k)
 |0=>h
 |k+1=>((SuOk.tys h i p k).key _).flds i _ _
theorem aNA(ps:List Pt):∀i,SuOk (suTo ps i)
 |0=>SuOk.zero
 |i+1=>(aNA ps i).tys i _ _
def outT(ps:List Pt)(X:Su)(nm:ByteArray):T:=⟨nm,keyM ps nm,(X.tf nm).map fun n=>aCO (X.sd nm n)⟩
def aEE(ps:List Pt)(X:Su):List T:=X.tn.map (outT ps X)
def aM6(ps:List Pt)(out:List T)(nm:ByteArray)(f:F):List T:=if 0≤tyIx out nm then out.set (tyIx out nm).toNat (putF (tth out (tyIx out nm).toNat) f) else out++[putF ⟨nm,keyM ps nm,[]⟩ f]
theorem aEG(out:List T)(nm:ByteArray):(¬0≤tyIx out nm∧∀i,i<out.length→(tth out i).name≠nm)∨∃k:Nat,tyIx out nm=(k:Int)∧k<out.length∧(tth out k).name=nm∧∀i,i<k→(tth out i).name≠nm:=by
 have hx:tyIx out nm=aA9 (fun i=>(tth out i).name.toList==nm.toList) out.length:=rfl
 rcases aA8 (fun i=>(tth out i).name.toList==nm.toList) out.length with⟨h2,h3⟩| ⟨g,h2,hg,hq,h3⟩
 ·left
  refine⟨by rw[hx,h2];omega,fun i hi e=>?_⟩
  have:=h3 i hi
  rw[e] at this
  simp at this
 ·right
  refine⟨g,by rw[hx,h2],hg,aIU (by simpa using hq),fun i hi e=>?_⟩
  have:=h3 i hi
  rw[e] at this
  simp at this
theorem aGX(t:T)(n:ByteArray):(¬0≤aAC t n∧∀i,i<t.fields.length→(fth t.fields i).name≠n)∨∃k:Nat,aAC t n=(k:Int)∧k<t.fields.length∧(fth t.fields k).name=n:=by
 have hx:aAC t n=aA9 (fun i=>(fth t.fields i).name.toList==n.toList) t.fields.length:=rfl
 rcases aA8 (fun i=>(fth t.fields i).name.toList==n.toList) t.fields.length with⟨h2,h3⟩| ⟨g,h2,hg,hq,h3⟩
 ·left
  refine⟨by rw[hx,h2];omega,fun i hi e=>?_⟩
  have:=h3 i hi
  rw[e] at this
  simp at this
 ·right
  exact⟨g,by rw[hx,h2],hg,aIU (by simpa using hq)⟩
theorem aID(ps:List Pt)(X:Su){i:Nat}(h:i<X.tn.length):tth (aEE ps X) i=outT ps X X.tn[i]:=by simp[aEE,tth,List.getD_eq_getElem?_getD,h]
theorem aOJ{l:List ByteArray}(h:l.Nodup){i j:Nat}(hi:i<l.length)(hj:j<l.length)(e:l[i]=l[j]):i=j:=by
 rcases Nat.lt_trichotomy i j with h1| h1| h1
 ·exact absurd e (List.pairwise_iff_getElem.1 h i j hi hj h1)
 ·exact h1
 ·exact absurd e.symm (List.pairwise_iff_getElem.1 h j i hj hi h1)
theorem aOC(ps:List Pt){X:Su}(h:SuOk X)(i:Nat)(nm:ByteArray)(f:F):outT ps (X.fld i nm f) nm=putF (outT ps X nm) f:=by
 have hsd:∀n,(X.fld i nm f).sd nm n=if n=f.name then X.sd nm n++[f] else X.sd nm n:=fun n=>by
  show(if nm=nm∧n=f.name then X.sd nm n++[f] else X.sd nm n)=_
  by_cases e:n=f.name
  ·rw[if_pos ⟨rfl,e⟩,if_pos e]
  ·rw[if_neg (fun h=>e h.2),if_neg e]
 have htf:(X.fld i nm f).tf nm=if(X.sd nm f.name).length=0 then X.tf nm++[f.name] else X.tf nm:=by
  show(if(X.sd nm f.name).length=0 then(fun m=>if m=nm then X.tf m++[f.name] else X.tf m) else X.tf) nm=_
  split
  ·exact if_pos rfl
  ·rfl
 have hname:∀n∈ X.tf nm,(aCO (X.sd nm n)).name=n:=fun n hn=>aPB ((h.fmem nm n).1 hn) (h.nam nm n)
 have hfn:∀j (hj:j<(X.tf nm).length),(fth (outT ps X nm).fields j)=aCO (X.sd nm (X.tf nm)[j]):=fun j hj=>by simp[outT,fth,List.getD_eq_getElem?_getD,hj]
 unfold putF
 by_cases e:(X.sd nm f.name).length=0
 ·have hnot:f.name∉ X.tf nm:=fun hm=>(h.fmem nm f.name).1 hm (len0.1 e)
  rcases aGX (outT ps X nm) f.name with⟨h1,-⟩| ⟨k,-,hk,hkn⟩
  ·rw[if_neg h1]
   unfold outT
   rw[htf,if_pos e,List.map_append]
   congr 2
   ·apply List.map_congr_left
    intro n hn
    have hne:n≠f.name:=fun e2=>hnot (e2▸hn)
    rw[hsd,if_neg hne]
   ·simp[hsd,len0.1 e,aCO,newS]
  ·exfalso
   have hk':k<(X.tf nm).length:=by simpa[outT] using hk
   rw[hfn k hk',hname _ (List.getElem_mem hk')] at hkn
   exact hnot (hkn▸List.getElem_mem hk')
 ·have hin:f.name∈ X.tf nm:=(h.fmem nm f.name).2 fun e2=>e (len0.2 e2)
  obtain⟨j,hj,hjn⟩:=List.mem_iff_getElem.1 hin
  rcases aGX (outT ps X nm) f.name with⟨-,h2⟩| ⟨k,hk1,hk,hkn⟩
  ·exfalso
   refine h2 j (by simpa[outT] using hj) ?_
   rw[hfn j hj,hname _ (List.getElem_mem hj),hjn]
  ·have hk':k<(X.tf nm).length:=by simpa[outT] using hk
   have hkn':=hkn
   rw[hfn k hk',hname _ (List.getElem_mem hk')] at hkn'
   rw[hk1,if_pos (by omega),Int.toNat_natCast,hfn k hk']
   unfold outT
   rw[htf,if_neg e]
   congr 1
   apply List.ext_getElem?
   intro j2
   by_cases e2:j2=k
   ·subst e2
    rw[List.getElem?_set_self (by simpa using hk')]
    simp only[List.getElem?_map,List.getElem?_eq_getElem hk',Option.map_some]
    rw[hsd,if_pos hkn',aPS _ _ (by rw[hkn'];exact fun e3=>e (len0.2 e3))]
    rfl
   ·rw[List.getElem?_set_ne (fun e3=>e2 e3.symm)]
    by_cases hj2:j2<(X.tf nm).length
    ·simp only[List.getElem?_map,List.getElem?_eq_getElem hj2,Option.map_some]
     rw[hsd,if_neg]
     exact fun e3=>e2 (aOJ (h.fnd nm) hj2 hk' (e3.trans hkn'.symm))
    ·simp only[List.getElem?_map]
     rw[List.getElem?_eq_none (by omega)]
     rfl
theorem aKD(ps:List Pt)(X:Su)(i:Nat)(nm:ByteArray)(f:F){m:ByteArray}(h:m≠nm):outT ps (X.fld i nm f) m=outT ps X m:=by
 have hsd:∀n,(X.fld i nm f).sd m n=X.sd m n:=fun n=>if_neg fun e=>h e.1
 have htf:(X.fld i nm f).tf m=X.tf m:=by
  show(if(X.sd nm f.name).length=0 then(fun m=>if m=nm then X.tf m++[f.name] else X.tf m) else X.tf) m=_
  split
  ·exact if_neg h
  ·rfl
 unfold outT
 rw[htf]
 congr 1
 apply List.map_congr_left
 intro n _
 rw[hsd]
theorem aRP(ps:List Pt){X:Su}(h:SuOk X)(i:Nat)(nm:ByteArray)(f:F):aEE ps (X.fld i nm f)=aM6 ps (aEE ps X) nm f:=by
 have htn:(X.fld i nm f).tn=if(X.sd nm f.name).length=0∧(X.tf nm).length=0 then X.tn++[nm] else X.tn:=rfl
 unfold aM6
 by_cases hm:nm∈ X.tn
 ·obtain⟨j,hj,hjn⟩:=List.mem_iff_getElem.1 hm
  have ht:(X.fld i nm f).tn=X.tn:=by rw[htn,if_neg (fun e=>(h.mem nm).1 hm (len0.1 e.2))]
  rcases aEG (aEE ps X) nm with⟨-,h2⟩| ⟨k,hk1,hk,hkn,-⟩
  ·exfalso
   refine h2 j (by simpa[aEE] using hj) ?_
   rw[aID ps X hj]
   exact hjn
  ·have hk':k<X.tn.length:=by simpa[aEE] using hk
   rw[aID ps X hk'] at hkn
   have hkn:X.tn[k]=nm:=hkn
   rw[hk1,if_pos (by omega),Int.toNat_natCast,aID ps X hk',hkn]
   unfold aEE
   rw[ht]
   apply List.ext_getElem?
   intro j2
   by_cases e2:j2=k
   ·subst e2
    rw[List.getElem?_set_self (by simpa using hk')]
    simp only[List.getElem?_map,List.getElem?_eq_getElem hk',Option.map_some]
    rw[hkn,aOC ps h]
   ·rw[List.getElem?_set_ne (fun e3=>e2 e3.symm)]
    by_cases hj2:j2<X.tn.length
    ·simp only[List.getElem?_map,List.getElem?_eq_getElem hj2,Option.map_some]
     rw[aKD]
     exact fun e3=>e2 (aOJ h.nd hj2 hk' (e3.trans hkn.symm))
    ·simp only[List.getElem?_map]
     rw[List.getElem?_eq_none (by omega)]
     rfl
 ·have htf:X.tf nm=[]:=by
   by_cases e:X.tf nm=[]
   ·exact e
   ·exact absurd ((h.mem nm).2 e) hm
  have hsd:X.sd nm f.name=[]:=by
   by_cases e:X.sd nm f.name=[]
   ·exact e
   ·have:=(h.fmem nm f.name).2 e
    rw[htf] at this
    cases this
  have ht:(X.fld i nm f).tn=X.tn++[nm]:=by rw[htn,if_pos ⟨len0.2 hsd,len0.2 htf⟩]
  rcases aEG (aEE ps X) nm with⟨h1,-⟩| ⟨k,hk1,hk,hkn,-⟩
  ·rw[if_neg h1]
   unfold aEE
   rw[ht,List.map_append]
   congr 1
   ·apply List.map_congr_left
    intro m hm2
    exact aKD ps X i nm f fun e=>hm (e▸hm2)
   ·simp only[List.map_cons,List.map_nil,aOC ps h]
    congr 2
    unfold outT
    rw[htf]
    rfl
  ·exfalso
   have hk':k<X.tn.length:=by simpa[aEE] using hk
   rw[aID ps X hk'] at hkn
   have hkn:X.tn[k]=nm:=hkn
   exact hm (hkn▸List.getElem_mem hk')
def aNT(ps:List Pt)(out:List T)(t:T):Nat→List T
 |0=>out
 |l+1=>aM6 ps (aNT ps out t l) t.name (fth t.fields l)
theorem aU6(ps:List Pt)(out:List T)(t:T)(l:Nat):tyIx (midT ps out t l) t.name=(atT out t:Int):=by
 have hat:=aOI ps out t
 have hnm:=aTD ps out t l
 have hlen:=aIC ps out t l
 rcases aEG (midT ps out t l) t.name with⟨-,h2⟩| ⟨k,hk1,hk,hkn,hk2⟩
 ·exact absurd hnm (h2 _ (by rw[hlen];exact hat))
 ·rw[hk1]
  by_cases e:k=atT out t
  ·rw[e]
  ·exfalso
   have hlt:k<atT out t:=by
    rcases Nat.lt_or_gt_of_ne e with h| h
    ·exact h
    ·exact absurd hnm (hk2 _ h)
   unfold midT at hkn
   rw[aFL _ _ _ _ e] at hkn
   rcases aEG out t.name with⟨h1,h2⟩| ⟨g,hg1,hg,hgn,hg2⟩
   ·have ha:atT out t=out.length:=by unfold atT;rw[if_neg h1]
    rw[ha] at hlt
    unfold aD2 at hkn
    rw[if_neg h1,aEP _ _ _ hlt] at hkn
    exact h2 k hlt hkn
   ·have ha:atT out t=g:=by unfold atT;rw[hg1,if_pos (by omega),Int.toNat_natCast]
    rw[ha] at hlt
    unfold aD2 at hkn
    rw[hg1,if_pos (by omega)] at hkn
    exact hg2 k hlt hkn
theorem aMA(ps:List Pt)(out:List T)(t:T):∀l,aNT ps out t (l+1)=midT ps out t (l+1)
 |0=>by
  rw[aNT,aNT,aIF,aM5]
  unfold aM6 aD2 atT
  rcases aEG out t.name with⟨h1,-⟩| ⟨g,hg1,hg,-⟩
  ·rw[if_neg h1,if_neg h1,if_neg h1,aDY]
   simp
  ·rw[hg1]
   simp
 |l+1=>by
  rw[aNT,aMA ps out t l,aIF ps out t (l+1)]
  unfold aM6
  rw[aU6,if_pos (by omega),Int.toNat_natCast]
theorem aKQ(ps:List Pt){X:Su}(h:SuOk X)(i:Nat)(t:T):∀l,aEE ps (X.flds i t l)=aNT ps (aEE ps X) t l
 |0=>rfl
 |l+1=>by rw[Su.flds,aRP ps (h.flds i t l),aKQ ps h i t l,aNT]
theorem aMV(ps:List Pt){p:Pt}(hp:okP p=true){X:Su}(h:SuOk X)(i:Nat):∀k,k≤p.types.length→aEE ps (X.tys i p k)=aC8 ps p (aEE ps X) k
 |0,_=>rfl
 |k+1,hk=>by
  have h0:=(aCJ (aED hp (i:=k) (by omega))).1
  rw[Su.tys,Su.look,aKQ ps ((h.tys i p k).key _),aC8,←aGR]
  have e:aEE ps ((X.tys i p k).key (tth p.types k))=aEE ps (X.tys i p k):=by
   obtain⟨h1,h2,h3⟩:=aOH (X.tys i p k) (tth p.types k)
   unfold aEE
   rw[h1]
   apply List.map_congr_left
   intro m _
   unfold outT
   rw[h2,h3]
  rw[e,aMV ps hp h i k (by omega)]
  obtain⟨q,hq⟩:∃q,(tth p.types k).fields.length=q+1:=⟨_,(Nat.succ_pred_eq_of_pos h0).symm⟩
  rw[hq]
  exact aMA _ _ _ _
theorem aIH{ps:List Pt}(h:∀i,i<ps.length→okP (pth ps i)=true):∀i,i≤ps.length→aEE ps (suTo ps i)=aBW ps i
 |0,_=>rfl
 |i+1,hi=>by rw[suTo,aMV ps (h i (by omega)) (aNA ps i) i _ (Nat.le_refl _),aIH h i (by omega),aBW]
theorem aS7{ps:List Pt}(h:∀i,i<ps.length→okP (pth ps i)=true):aEE ps (suM ps)=(allM ps).types:=aIH h _ (Nat.le_refl _)
def aGO:List ByteArray→ByteArray
 |[]=>ByteArray.empty
 |k::_=>k
theorem aJN(ps:List Pt)(nm:ByteArray):∀n,(∀i,i<n→(aA7 (pth ps i) nm).key.toList.isEmpty=true)→kyTo ps nm n=[]
 |0,_=>rfl
 |n+1,h=>by rw[kyTo,aJN ps nm n fun i hi=>h i (by omega),h n (by omega)];rfl
theorem aOP(ps:List Pt)(nm:ByteArray)(m:Nat):∀n,m≤n→∃r,kyTo ps nm n=kyTo ps nm m++r
 |0,h=>⟨[],by rw[Nat.le_zero.1 h];simp⟩
 |n+1,h=>by
  by_cases e:m=n+1
  ·subst e;exact⟨[],by simp⟩
  ·obtain⟨r,hr⟩:=aOP ps nm m n (by omega)
   exact⟨_,by rw[kyTo,hr,List.append_assoc]⟩
theorem aJ8(ps:List Pt)(nm:ByteArray):keyM ps nm=aGO (kyTo ps nm ps.length):=by
 unfold keyM
 have hx:aNB ps nm=aA9 (fun i=>!(aA7 (pth ps i) nm).key.toList.isEmpty) ps.length:=rfl
 rcases aA8 (fun i=>!(aA7 (pth ps i) nm).key.toList.isEmpty) ps.length with⟨h2,h3⟩| ⟨g,h2,hg,hq,h3⟩
 ·rw[hx,h2,if_neg (by omega),aJN ps nm _ fun i hi=>by simpa using h3 i hi]
  rfl
 ·rw[hx,h2,if_pos (by omega),Int.toNat_natCast]
  obtain⟨r,hr⟩:=aOP ps nm (g+1) ps.length (by omega)
  have h0:=aJN ps nm g fun i hi=>by simpa using h3 i hi
  have hq':(aA7 (pth ps g) nm).key.toList.isEmpty=false:=by simpa using hq
  rw[hr,kyTo,h0,hq']
  rfl
theorem aL0(ps:List Pt)(nm n:ByteArray)(q:F→Bool):∀k,(sdTo ps nm n k).all q=aA6 (fun i=>!(sayB (pth ps i) nm n)||q (sayF (pth ps i) nm n)) k
 |0=>rfl
 |k+1=>by
  rw[sdTo,List.all_append,aL0 ps nm n q k,aA6]
  cases sayB (pth ps k) nm n<;>simp
theorem aHM(ps:List Pt)(nm n:ByteArray)(q:F→Bool):∀k,(sdTo ps nm n k).countP q=cntP (fun i=>sayB (pth ps i) nm n&&q (sayF (pth ps i) nm n)) k
 |0=>rfl
 |k+1=>by
  rw[sdTo,List.countP_append,aHM ps nm n q k,cntP]
  cases sayB (pth ps k) nm n
  ·simp
  ·cases hq:q (sayF (pth ps k) nm n)<;>simp[hq]
def aBG(f:F)(L:List F):Bool:=L.all fun g=>(g.of.toList==f.of.toList)&&(g.list==f.list)&&(g.must==f.must)
theorem aJJ{α:Type}[BEq α][LawfulBEq α](a b:α):(a==b)=(b==a):=by
 by_cases h:a=b
 ·subst h;rfl
 ·have h1:(a==b)=false:=by simpa using h
  have h2:(b==a)=false:=by simpa using fun e=>h e.symm
  rw[h1,h2]
theorem aQM(ps:List Pt)(nm:ByteArray)(f:F)(k:Nat):aBG f (sdTo ps nm f.name k)=aA6 (aEC ps nm f) k:=by
 unfold aBG
 rw[aL0]
 congr 1
 funext i
 unfold aEC aHQ
 rw[aJJ f.of.toList,aJJ f.list,aJJ f.must]
def aBO(L:List F):Nat:=L.countP fun g=>g.shared
def aBI(L:List F):Bool:=L.any fun g=>decide (0<g.needs.length)
theorem aNN(ps:List Pt)(nm n:ByteArray)(k:Nat):aBO (sdTo ps nm n k)=cntP (aE6 ps nm n) k:=aHM ps nm n _ k
theorem aMC(ps:List Pt)(nm n:ByteArray)(k:Nat):aBI (sdTo ps nm n k)=decide (0<cntP (aAH ps nm n) k):=by
 have h:=aHM ps nm n (fun g=>decide (0<g.needs.length)) k
 have e:cntP (aAH ps nm n) k=(sdTo ps nm n k).countP fun g=>decide (0<g.needs.length):=h.symm
 rw[e]
 unfold aBI
 cases ha:(sdTo ps nm n k).any fun g=>decide (0<g.needs.length)
 ·symm
  rw[decide_eq_false_iff_not,Nat.not_lt,Nat.le_zero,List.countP_eq_zero]
  intro a hm hp
  rw[List.any_eq_false] at ha
  exact ha a hm hp
 ·symm
  rw[decide_eq_true_eq,List.countP_pos_iff]
  rw[List.any_eq_true] at ha
  exact ha
theorem aJB(q:Nat→Bool):∀k,cntP q k=0↔∀i,i<k→q i=false
 |0=>by simp[cntP]
 |k+1=>by
  rw[cntP]
  cases hq:q k
  ·simp only[Bool.false_eq_true,if_false,Nat.add_zero,aJB q k]
   exact⟨fun h i hi=>by
    by_cases e:i=k
    ·rw[e];exact hq
    ·exact h i (by omega),fun h i hi=>h i (by omega)⟩
  ·simp only[if_true]
   exact⟨fun h=>by omega,fun h=>by rw[h k (by omega)] at hq;cases hq⟩
theorem aV1{p:Pt}(h:okP p=true){nm n:ByteArray}(hs:sayB p nm n=true)(hsh:(sayF p nm n).shared=true):(sayF p nm n).far=false:=by
 obtain⟨k,hk,hkl,-⟩:=aC9 (aIL hs)
 have hs':=hs
 unfold sayB at hs'
 rw[decide_eq_true_eq,aDW hk] at hs'
 obtain⟨l,hl,hll,-⟩:=aDA hs'
 have e:sayF p nm n=fth (tth p.types k).fields l:=by unfold sayF;rw[aDW hk,aHA hl]
 rw[e] at hsh ⊢
 have h0:=aED h hkl
 unfold aAG at h0
 by_cases a:aAQ (tth p.types k)=false
 ·rw[if_pos a] at h0;omega
 rw[if_neg a] at h0
 by_cases b:aCI p.types k (tth p.types k)=true
 ·rw[if_pos b] at h0;omega
 rw[if_neg b] at h0
 by_cases c:aC0 p (tth p.types k).fields (tth p.types k).fields.length=false
 ·rw[if_pos c] at h0;omega
 rw[if_neg c] at h0
 by_cases d:keyB (tth p.types k)=false
 ·rw[if_pos d] at h0;omega
 rw[if_neg d] at h0
 by_cases g:aB3 (tth p.types k) (tth p.types k).fields.length=false
 ·rw[if_pos g] at h0;omega
 have g':aB3 (tth p.types k) (tth p.types k).fields.length=true:=by simpa using g
 have g2:=List.all_eq_true.1 g' l (by simpa using hll)
 simp only[aDD,Bool.and_eq_true,Bool.not_eq_true',Bool.and_eq_false_iff] at g2
 rcases g2.2 with h9| h9
 ·exact h9
 ·rw[h9] at hsh;cases hsh
theorem aGI{ps:List Pt}(h:∀i,i<ps.length→okP (pth ps i)=true)(nm n:ByteArray):∀k,k≤ps.length→cntP (aE6 ps nm n) k≤(aBV ps nm n k).length
 |0,_=>Nat.le_refl _
 |k+1,hk=>by
  have ih:=aGI h nm n k (by omega)
  rw[cntP,aBV,List.length_append]
  cases hs:aE6 ps nm n k
  ·simp only[Bool.false_eq_true,if_false];omega
  ·simp only[aE6,Bool.and_eq_true] at hs
   have hf:=aV1 (h k (by omega)) hs.1 hs.2
   have:aG7 (pth ps k) nm n=true:=by unfold aG7;rw[hs.1,hf];rfl
   rw[if_pos this]
   simp only[if_true,List.length_singleton]
   omega
def aAR(ps:List Pt)(nm:ByteArray)(f:F):Bool:=
 decide ((aAW ps nm f.name).length=0)||(decide (1<(aAW ps nm f.name).length)&&!(f.name.toList==(keyM ps nm).toList)&&!decide (aBO (sdTo ps nm f.name ps.length)=(aAW ps nm f.name).length))||
  ((decide (1<(aAW ps nm f.name).length)&&aBI (sdTo ps nm f.name ps.length))||f.needs.any fun need=>aBI (sdTo ps nm need ps.length))
theorem aRT(ps:List Pt)(nm:ByteArray)(f:F):(f.needs.any fun need=>aBI (sdTo ps nm need ps.length))=!aC5 ps nm f:=by
 have h1:∀need,aBI (sdTo ps nm need ps.length)=!aA6 (fun k=>!(aAH ps nm need k)) ps.length:=fun need=>by
  rw[aMC]
  cases ha:aA6 (fun k=>!(aAH ps nm need k)) ps.length
  ·rw[Bool.not_false,decide_eq_true_eq]
   rcases Nat.eq_zero_or_pos (cntP (aAH ps nm need) ps.length) with h0| h0
   ·rw[aJB] at h0
    have:aA6 (fun k=>!(aAH ps nm need k)) ps.length=true:=(aBH _ _).2 fun i hi=>by rw[h0 i hi];rfl
    rw[this] at ha
    cases ha
   ·exact h0
  ·rw[Bool.not_true,decide_eq_false_iff_not,Nat.not_lt,Nat.le_zero,aJB]
   intro i hi
   simpa using(aBH _ _).1 ha i hi
 unfold aC5
 cases ha:aA6 (fun i=>aA6 (fun k=>!(aAH ps nm (nth f.needs i) k)) ps.length) f.needs.length
 ·rw[Bool.not_false,List.any_eq_true]
  by_cases hc:∃i,i<f.needs.length∧aA6 (fun k=>!(aAH ps nm (nth f.needs i) k)) ps.length=false
  ·obtain⟨i,hi,hq⟩:=hc
   refine⟨nth f.needs i,by simp[nth,List.getD_eq_getElem?_getD,hi],?_⟩
   rw[h1,hq];rfl
  ·have:aA6 (fun i=>aA6 (fun k=>!(aAH ps nm (nth f.needs i) k)) ps.length) f.needs.length=true:=(aBH _ _).2 fun i hi=>by
    cases hq:aA6 (fun k=>!(aAH ps nm (nth f.needs i) k)) ps.length
    ·exact absurd ⟨i,hi,hq⟩ hc
    ·rfl
   rw[this] at ha
   cases ha
 ·rw[Bool.not_true,List.any_eq_false]
  intro x hx
  obtain⟨i,hi,e⟩:=List.mem_iff_getElem.1 hx
  have h2:=(aBH _ _).1 ha i hi
  have e2:nth f.needs i=x:=by rw[←e];simp[nth,List.getD_eq_getElem?_getD,hi]
  rw[e2] at h2
  rw[h1,h2]
  decide
theorem aGM{ps:List Pt}(h:∀i,i<ps.length→okP (pth ps i)=true)(nm:ByteArray)(f:F)(ha:aA6 (aEC ps nm f) ps.length=true):aAR ps nm f=false↔aB0 ps nm f=0:=by
 have hle:=aGI h nm f.name _ (Nat.le_refl _)
 have ho:(aBV ps nm f.name ps.length).length=(aAW ps nm f.name).length:=rfl
 rw[ho] at hle
 unfold aAR aB0
 rw[aRT,aNN,aMC,ha]
 generalize (aAW ps nm f.name).length=o at*
 generalize cntP (aE6 ps nm f.name) ps.length=s at*
 generalize cntP (aAH ps nm f.name) ps.length=d at*
 generalize (f.name.toList==(keyM ps nm).toList)=b
 generalize aC5 ps nm f=q
 rw[if_neg (by simp)]
 by_cases h0:o=0
 ·subst h0
  simp
 rw[if_neg h0]
 by_cases h1:1<o
 ·have hd1:decide (1<o)=true:=decide_eq_true h1
  have hd0:decide (o=0)=false:=decide_eq_false h0
  rw[hd0,hd1]
  cases b
  ·by_cases h2:s<o
   ·rw[if_pos ⟨h1,rfl,h2⟩,decide_eq_false (show¬s=o by omega)]
    simp
   ·rw[if_neg (fun e=>h2 e.2.2),decide_eq_true (show s=o by omega)]
    by_cases h3:0<d
    ·rw[if_pos ⟨h3,h1⟩,decide_eq_true h3];simp
    ·rw[if_neg (fun e=>h3 e.1),decide_eq_false h3]
     cases q<;>simp
  ·rw[if_neg (by simp)]
   by_cases h3:0<d
   ·rw[if_pos ⟨h3,h1⟩,decide_eq_true h3];simp
   ·rw[if_neg (fun e=>h3 e.1),decide_eq_false h3]
    cases q<;>simp
 ·have hd1:decide (1<o)=false:=decide_eq_false h1
  have hd0:decide (o=0)=false:=decide_eq_false h0
  rw[hd0,hd1,if_neg (fun e=>h1 e.1),if_neg (fun e=>h1 e.2)]
  cases q<;>simp
def aE1(ps:List Pt):Bool:=aA6 (fun i=>aA6 (fun k=>aCN ps (tth (pth ps i).types k)&&aA6 (fun l=>aBG (fth (tth (pth ps i).types k).fields l) (sdTo ps (tth (pth ps i).types k).name (fth (tth (pth ps i).types k).fields l).name ps.length)) (tth (pth ps i).types k).fields.length) (pth ps i).types.length) ps.length
def aE3(ps:List Pt):Bool:=aA6 (fun i=>aA6 (fun k=>aA6 (fun l=>!aAR ps (tth (pth ps i).types k).name (fth (tth (pth ps i).types k).fields l)) (tth (pth ps i).types k).fields.length) (pth ps i).types.length) ps.length
theorem aKJ{ps:List Pt}(h:∀i,i<ps.length→okP (pth ps i)=true):(aE1 ps&&aE3 ps)=aA6 (fun i=>aA6 (fun k=>aC7 ps (tth (pth ps i).types k)) (pth ps i).types.length) ps.length:=by
 have hb:∀a b:Bool,(a=true↔b=true)→a=b:=fun a b=>by cases a<;>cases b<;>simp
 apply hb
 rw[Bool.and_eq_true]
 unfold aE1 aE3
 simp only[aBH,aC7,Bool.and_eq_true,Bool.not_eq_true',beq_iff_eq]
 have hal:∀nm (f:F),aBG f (sdTo ps nm f.name ps.length)=true↔aA6 (aEC ps nm f) ps.length=true:=fun nm f=>by rw[aQM]
 constructor
 ·rintro⟨h1,h2⟩ i hi k hk
  refine⟨(h1 i hi k hk).1,fun l hl=>?_⟩
  exact(aGM h _ _ ((hal _ _).1 ((h1 i hi k hk).2 l hl))).1 (h2 i hi k hk l hl)
 ·intro h1
  have h3:∀i,i<ps.length→∀k,k<(pth ps i).types.length→∀l,l<(tth (pth ps i).types k).fields.length→aA6 (aEC ps (tth (pth ps i).types k).name (fth (tth (pth ps i).types k).fields l)) ps.length=true:=fun i hi k hk l hl=>by
   have h4:=(h1 i hi k hk).2 l hl
   unfold aB0 at h4
   cases ha:aA6 (aEC ps (tth (pth ps i).types k).name (fth (tth (pth ps i).types k).fields l)) ps.length
   ·rw[if_pos ha] at h4;omega
   ·rfl
  exact⟨fun i hi k hk=>⟨(h1 i hi k hk).1,fun l hl=>(hal _ _).2 (h3 i hi k hk l hl)⟩,fun i hi k hk l hl=>(aGM h _ _ (h3 i hi k hk l hl)).2 ((h1 i hi k hk).2 l hl)⟩
end Go.Proofs.YtcebpkeiaiiphaaGreatDoor
