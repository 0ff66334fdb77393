import Derived.Test.YtokmgbidmnanpaaGreatDoorQ14
import Derived.Test.YtokmgbidmnanpaaGreatDoorQ32
import Derived.Test.YtokmgbidmnanpaaGreatDoorQ9
set_option linter.unusedSimpArgs false
set_option linter.unusedVariables false
namespace Go.Proofs.YtokmgbidmnanpaaGreatDoor
open Go.RowKit Go.Shelf Go.Maps
def pkN:Nat→Nat
 |0=>0
 |d+1=>1+3*(8+pkN d)
def Tr(m:Nat):Nat→List Se→Prop
 |0,ks=>ks=[]
 |d+1,ks=>ks.length≤m∧∀s∈ ks,s.al.size≤1048576∧s.name.size≤1048576∧Tr m d s.kids
def trN(m:Nat):Nat→Nat
 |0=>0
 |d+1=>m*(1+trN m d)
theorem Tr.nil(m d:Nat):Tr m d []:=by cases d with| zero=>rfl| succ d=>exact⟨Nat.zero_le _,fun s hs=>by cases hs⟩
theorem Tr.fit{m:Nat}:∀{d:Nat} {ks:List Se},Tr m d ks→FitS d ks
 |0,_,h=>h
 |_+1,_,h=>fun i hi=>(h.2 _ (aJH hi)).2.2.fit
theorem Tr.up{m m':Nat}(hm:m≤m'):∀{d d':Nat} {ks:List Se},d≤d'→Tr m d ks→Tr m' d' ks
 |0,d',ks,_,h=>by have e:ks=[]:=h;subst e;exact Tr.nil m' d'
 |d+1,0,_,hd,_=>absurd hd (by omega)
 |d+1,d'+1,_,hd,h=>⟨Nat.le_trans h.1 hm,fun s hs=>⟨(h.2 s hs).1,(h.2 s hs).2.1,Tr.up hm (by omega) (h.2 s hs).2.2⟩⟩
theorem aTC(f:Nat)(s:Se)(N:Nat)(h:∀f,aBX f s.kids s.kids.length≤N):aNV f s≤1+N:=by
 cases f with
 |zero=>simp[aNV]
 |succ f=>rw[aBD];have:=h f;omega
theorem aOW(f:Nat)(ks:List Se)(N:Nat)(h:∀s∈ ks,∀f,aBX f s.kids s.kids.length≤N):∀n,n≤ks.length→aBX f ks n≤n*(1+N)
 |0,_=>by simp[aBX]
 |n+1,hn=>by
  have ih:=aOW f ks N h n (by omega)
  have h1:=aTC f (sth ks n) N (h _ (aJH (by omega)))
  rw[aBN,Nat.succ_mul]
  omega
theorem Tr.cnt{m:Nat}:∀{d:Nat} {ks:List Se},Tr m d ks→∀f,aBX f ks ks.length≤trN m d
 |0,ks,h,f=>by have e:ks=[]:=h;subst e;simp[aBX]
 |d+1,ks,h,f=>by
  have h1:=aOW f ks (trN m d) (fun s hs=>(h.2 s hs).2.2.cnt) ks.length (Nat.le_refl _)
  have h2:ks.length*(1+trN m d)≤m*(1+trN m d):=Nat.mul_le_mul_right _ h.1
  rw[trN]
  omega
theorem Tr.small{m:Nat}:∀{d:Nat} {ks:List Se},Tr m d ks→∀f,aEJ f ks
 |0,ks,h,f=>by have e:ks=[]:=h;subst e;cases f with| zero=>trivial| succ f=>intro i hi;simp at hi
 |d+1,ks,h,f=>by
  cases f with
  |zero=>trivial
  |succ f=>intro i hi;exact⟨(h.2 _ (aJH hi)).1,(h.2 _ (aJH hi)).2.1,(h.2 _ (aJH hi)).2.2.small f⟩
def SelE(d:Nat)(s:Se):Prop:=s.al.size≤1048576∧s.name.size≤1048576∧Tr 3 d s.kids
def aFV(d:Nat)(ks:List Se):Prop:=Tr 3 d ks
theorem aFV.nil(d:Nat):aFV d []:=Tr.nil 3 d
theorem aFV.of{d:Nat}{ks:List Se}(hl:ks.length≤3)(h:∀s∈ ks,SelE d s):aFV (d+1) ks:=⟨hl,h⟩
theorem RowP.repsA{base:Nat}{es:List El}{v:Value}{w:World}(h:RowP aAA base es v w)(hl:es.length≤1000000)(hs:∀e∈ es,e.s.al.size≤maxLen∧e.s.name.size≤maxLen)(hq:∀e∈ es,∀b,e.Q b→base≤b∧aBK w b)(hv:∃g cap,v=.slice (some ⟨g,0,none⟩) es.length cap):
  ∃a c,v=.slice a es.length c∧aAA w (fun b=>base≤b∧b<w.heap.size∧aBK w b) (es.map El.s) a∧es.length≤c:=by
 obtain⟨g,cap,rfl⟩:=hv
 have hcap:es.length≤cap:=by
  rcases h.row.2 with⟨e,-⟩| ⟨g',cap',cur,e,-,-,hc,-⟩
  ·cases e
  ·cases e;exact hc
 have hg:=h.row.lt g rfl
 have hap:aBK w g:=by
  rcases h.row.2 with⟨e,-⟩| ⟨g',cap',cur,e,-,hh,-⟩
  ·cases e
  ·cases e;exact⟨⟨_,_,_,hh⟩,fun a ha=>by simp[World.frozen?,ha,hh]⟩
 have h2:=h.reps (fun _ _ _ _ h=>h) hl hs (fun b=>(base≤b∧b<w.heap.size)) (fun b hb=>hb) (fun e he b hb=>⟨(hq e he b hb).1,((h.kid e he).2 b hb).1⟩)
 obtain⟨a,c,e,hR⟩:=h2
 cases e
 refine⟨_,_,rfl,⟨hR.1,fun i j=>((es.flatMap El.cells)[i*5+j]?).getD (.bool false),fun hn=>⟨g,0,rfl,⟨hg.1,hg.2,hap⟩,fun i hi j hj=>?_⟩,fun i hi=>?_⟩,hcap⟩
 ·have hi':i<es.length:=by simpa using hi
  rw[Nat.zero_add,h.row.cellAt (i*5+j) (by omega)]
  have hlt:i*5+j<(es.flatMap El.cells).length:=by rw[h.row.1];omega
  show _=some ((es.flatMap El.cells)[i*5+j]?.getD (.bool false))
  rw[List.getElem?_eq_getElem hlt];rfl
 ·have hi':i<es.length:=by simpa using hi
  have hm:=List.getElem_mem hi'
  have c0:=aH9 es i 0 hi' (by omega)
  have c1:=aH9 es i 1 hi' (by omega)
  have c2:=aH9 es i 2 hi' (by omega)
  have c3:=aH9 es i 3 hi' (by omega)
  have c4:=aH9 es i 4 hi' (by omega)
  simp only
  rw[c0,c1,c2,c3,c4]
  have es1:sth (es.map El.s) i=es[i].s:=by simp[sth,List.getD_eq_getElem?_getD,hi']
  rw[es1]
  have hk:=((h.kid _ hm).1).sub (Q:=fun b=>base≤b∧b<w.heap.size∧aBK w b) fun b hb=>⟨(hq _ hm b hb).1,((h.kid _ hm).2 b hb).1,(hq _ hm b hb).2⟩
  have hz:=hs _ hm
  generalize es[i]=x at*
  simp only[El.cells,List.getElem?_cons_zero,List.getElem?_cons_succ,Option.getD_some]
  obtain⟨⟨x1,x2,x3,x4,x5⟩,x6,x7,x8⟩:=x
  exact aDZ.of_kids hz.1 hz.2 hk
structure SSt(w:World)(rb cb d:Nat)(K:Nat→Prop)(w3:World)(q:Nat)(es:List El)(o:Value)(wr:World):Prop where
 rd:RdOk wr rb cb q
 row:RowP aAA w.heap.size es o wr
 own:∀e∈ es,(∀b,e.Q b→w.heap.size≤b∧aBK wr b)∧SelE d e.s
 only:Only (·=rb) w wr
 kept:∀b,K b→wr.heap[b]?=w3.heap[b]?∧o.ownBlock≠some b∧b<wr.heap.size∧w.heap.size≤b
 form:∃g cap,o=.slice (some ⟨g,0,none⟩) es.length cap
 rlt:rb<w.heap.size
 clt:cb<w.heap.size
theorem SSt.move{w:World}{rb cb d:Nat}{K:Nat→Prop}{w3:World}{q q':Nat}{es:List El}{o:Value}{wr W:World}(h:SSt w rb cb d K w3 q es o wr)(hr:RdOk W rb cb q')(ho:Only (·=rb) wr W):SSt w rb cb d K w3 q' es o W:=by
 have hlt:=h.rlt
 have hk:∀b,w.heap.size≤b→b<wr.heap.size→W.heap[b]?=wr.heap[b]?:=fun b h1 h2=>ho.block b h2 (by omega)
 refine⟨hr,⟨?_,fun e he=>?_⟩,fun e he=>⟨fun b hb=>⟨((h.own e he).1 b hb).1,((h.own e he).1 b hb).2.of_block (hk b ((h.own e he).1 b hb).1 ((h.row.kid e he).2 b hb).1)⟩,(h.own e he).2⟩,h.only.trans ho fun _ _ q=>q,fun b hb=>?_,h.form,h.rlt,h.clt⟩
 ·exact aAT h.row.row fun b hb=>hk b (h.row.row.lt b hb).1 (h.row.row.lt b hb).2
 ·obtain⟨h1,h2⟩:=h.row.kid e he
  refine⟨h1.mono fun b hb=>hk b ((h.own e he).1 b hb).1 (h2 b hb).1,fun b hb=>⟨Nat.lt_of_lt_of_le (h2 b hb).1 ho.size,(h2 b hb).2⟩⟩
 ·obtain⟨h1,h2,h3,h4⟩:=h.kept b hb
  exact⟨(hk b h4 h3).trans h1,h2,Nat.lt_of_lt_of_le h3 ho.size,h4⟩
theorem SSt.below{w:World}{rb cb d:Nat}{K:Nat→Prop}{w3:World}{q:Nat}{es:List El}{o:Value}{wr W:World}(h:SSt w rb cb d K w3 q es o wr)(hb:Below wr.heap.size wr W):SSt w rb cb d K w3 q es o W:=
 h.move (h.rd.only (Only.of_below (fun _=>False) hb) id id) (Only.of_below _ hb)
theorem SSt.push{w:World}{rb cb d:Nat}{K:Nat→Prop}{w3:World}{q:Nat}{es:List El}{o v':Value}{W W':World}(h:SSt w rb cb d K w3 q es o W)(e:El){xs:List Value}(hx:xs=e.cells)
  (hr:W'.ownsRow w.heap.size 56 5 v' (es.length+1) (es.flatMap El.cells++xs)) (hg:W.grownBy W' o.ownBlock) (hob:v'.ownBlock=o.ownBlock∨v'.ownBlock=some W.heap.size)
  (hk:aAA W e.Q e.s.kids e.ka) (hq:∀b,e.Q b→b<W.heap.size∧o.ownBlock≠some b∧w.heap.size≤b∧aBK W b) (hs:SelE d e.s):SSt w rb cb d K w3 q (es++[e]) v' W':=by
 have hlt:=h.rlt
 have hrd:=h.rd.lt
 have hob2:∀b,o.ownBlock=some b→w.heap.size≤b:=fun b hb=>(h.row.row.lt b hb).1
 have hcl:=h.clt
 refine⟨h.rd.keep (hg.block rb hrd.1 fun e2=>by have:=hob2 rb e2.symm;omega) (hg.block cb hrd.2.1 fun e2=>by have:=hob2 cb e2.symm;omega) hg.size,h.row.push aDP e hx rfl hr hg hob hk (fun b hb=>⟨(hq b hb).1,(hq b hb).2.1⟩),fun y hy=>?_,h.only.grown hg fun k hk2=>Or.inr (hob2 k hk2),fun b hb=>?_,?_,h.rlt,h.clt⟩
 ·rcases List.mem_append.1 hy with hy| hy
  ·exact⟨fun b hb=>⟨((h.own y hy).1 b hb).1,((h.own y hy).1 b hb).2.of_block (hg.block b ((h.row.kid y hy).2 b hb).1 fun e2=>((h.row.kid y hy).2 b hb).2 e2.symm)⟩,(h.own y hy).2⟩
  ·rw[List.mem_singleton.1 hy];exact⟨fun b hb=>⟨(hq b hb).2.2.1,(hq b hb).2.2.2.of_block (hg.block b (hq b hb).1 fun e2=>(hq b hb).2.1 e2.symm)⟩,hs⟩
 ·obtain⟨h1,h2,h3,h4⟩:=h.kept b hb
  refine⟨(hg.block b h3 fun e2=>h2 e2.symm).trans h1,fun e2=>?_,Nat.lt_of_lt_of_le h3 hg.size,h4⟩
  rcases hob with hob| hob
  ·exact h2 (hob▸e2)
  ·rw[hob] at e2
   have:=Option.some.inj e2
   omega
 ·rcases hr.2 with⟨-,h0⟩| ⟨g',cap',cur,e2,-⟩
  ·omega
  ·exact⟨g',cap',by rw[e2];simp⟩
end Go.Proofs.YtokmgbidmnanpaaGreatDoor
namespace Go.Proofs.YtokmgbidmnanpaaGreatDoor
open Go.RowKit Go.Shelf Go.Maps
end Go.Proofs.YtokmgbidmnanpaaGreatDoor
namespace Go.Proofs.YtokmgbidmnanpaaGreatDoor
open Go.RowKit Go.Shelf Go.Maps
def aHP(w:World)(g o:Nat)(s:Se)(a:Option Addr)(c:Nat):Prop:=
 w.cell? ⟨g,o,none⟩=some (.string s.al)∧w.cell? ⟨g,o+1,none⟩=some (.string s.name)∧w.cell? ⟨g,o+2,none⟩=some (.bool s.one)∧w.cell? ⟨g,o+3,none⟩=some (.int .i64 s.id)∧w.cell? ⟨g,o+4,none⟩=some (.slice a s.kids.length c)
def OwnT:Nat→World→(Nat→Prop)→List Se→Option Addr→Prop
 |0,_,_,ks,_=>ks=[]
 |f+1,w,Q,ks,a=>ks.length≤1000000∧(0<ks.length→∃(g:Nat) (R:Nat→Nat→Prop) (A:Nat→Option Addr) (c:Nat→Nat),a=some ⟨g,0,none⟩∧Q g∧(∀j,w.frozen? ⟨g,j,none⟩=false)∧
   (∀i,i<ks.length→∀b,R i b→Q b∧b≠g)∧(∀i j,i<ks.length→j<ks.length→i≠j→∀b,R i b→¬R j b)∧
   ∀i,i<ks.length→aHP w g (i*5) (sth ks i) (A i) (c i)∧(sth ks i).al.size≤maxLen∧(sth ks i).name.size≤maxLen∧OwnT f w (R i) (sth ks i).kids (A i))
theorem aHP.keep{w w':World}{g o:Nat}{s:Se}{a:Option Addr}{c:Nat}(h:aHP w g o s a c)(e:w'.heap[g]?=w.heap[g]?):aHP w' g o s a c:=
 ⟨(World.cell?_of_block (a:=⟨g,o,none⟩) e).trans h.1,(World.cell?_of_block (a:=⟨g,o+1,none⟩) e).trans h.2.1,(World.cell?_of_block (a:=⟨g,o+2,none⟩) e).trans h.2.2.1,(World.cell?_of_block (a:=⟨g,o+3,none⟩) e).trans h.2.2.2.1,(World.cell?_of_block (a:=⟨g,o+4,none⟩) e).trans h.2.2.2.2⟩
theorem OwnT.keep:∀{f:Nat} {w w':World} {Q:Nat→Prop} {ks:List Se} {a:Option Addr},OwnT f w Q ks a→(∀b,Q b→w'.heap[b]?=w.heap[b]?)→OwnT f w' Q ks a
 |0,_,_,_,_,_,h,_=>h
 |f+1,w,w',Q,ks,a,h,e=>⟨h.1,fun hn=>by
  obtain⟨g,R,A,c,h1,h2,h3,h4,h5,h6⟩:=h.2 hn
  refine⟨g,R,A,c,h1,h2,fun j=>(World.frozen?_of_block (a:=⟨g,j,none⟩) (e g h2)).trans (h3 j),h4,h5,fun i hi=>?_⟩
  obtain⟨k1,k2,k3,k4⟩:=h6 i hi
  exact⟨k1.keep (e g h2),k2,k3,k4.keep fun b hb=>e b (h4 i hi b hb).1⟩⟩
theorem OwnT.reps:∀{f:Nat} {w:World} {Q:Nat→Prop} {ks:List Se} {a:Option Addr},OwnT f w Q ks a→aAA w Q ks a
 |0,w,Q,ks,a,h=>by
  have e:ks=[]:=h
  subst e
  exact⟨by simp,fun _ _=>.bool false,fun hn=>by simp at hn,fun i hi=>by simp at hi⟩
 |f+1,w,Q,ks,a,h=>by
  by_cases hn:0<ks.length
  ·obtain⟨g,R,A,c,rfl,h2,h3,h4,h5,h6⟩:=h.2 hn
   refine⟨by have:=h.1;omega,fun i j=>[Value.string (sth ks i).al,.string (sth ks i).name,.bool (sth ks i).one,.int .i64 (sth ks i).id,.slice (A i) (sth ks i).kids.length (c i)].getD j (.bool false),fun _=>⟨g,0,rfl,h2,fun i hi j hj=>?_⟩,fun i hi=>?_⟩
   ·obtain⟨⟨k0,k1,k2,k3,k4⟩,-⟩:=h6 i hi
    rw[Nat.zero_add]
    rcases j with _| _| _| _| _| j
    ·exact k0
    ·exact k1
    ·exact k2
    ·exact k3
    ·exact k4
    ·omega
   ·obtain⟨-,k2,k3,k4⟩:=h6 i hi
    have hk:=(OwnT.reps k4).sub fun b hb=>(h4 i hi b hb).1
    show aDZ w Q (sth ks i) (.agg #[.string (sth ks i).al,.string (sth ks i).name,.bool (sth ks i).one,.int .i64 (sth ks i).id,.slice (A i) (sth ks i).kids.length (c i)])
    generalize sth ks i=s at*
    have hfin:=aDZ.of_kids (s:=s.al) (n:=s.name) (o:=s.one) (id:=s.id) (kc:=c i) k2 k3 hk
    obtain⟨x1,x2,x3,x4,x5⟩:=s
    exact hfin
  ·have e:ks=[]:=by
    cases ks with
    |nil=>rfl
    |cons x l=>simp at hn
   subst e
   exact⟨by simp,fun _ _=>.bool false,fun hn=>by simp at hn,fun i hi=>by simp at hi⟩
theorem RowP.own{f base:Nat}{es:List El}{v:Value}{w:World}(h:RowP (OwnT f) base es v w)(hl:es.length≤1000000)(hs:∀e∈ es,e.s.al.size≤maxLen∧e.s.name.size≤maxLen)(hap:es.Pairwise fun x y=>∀b,x.Q b→¬y.Q b)(Q:Nat→Prop)
  (hQ:∀b,(base≤b∧b<w.heap.size)→Q b) (hQe:∀e∈ es,∀b,e.Q b→Q b):∃a c,v=.slice a es.length c∧OwnT (f+1) w Q (es.map El.s) a:=by
 rcases h.row.2 with⟨rfl,h0⟩| ⟨g,cap,cur,rfl,hb,hh,r⟩
 ·have e:es=[]:=List.length_eq_zero_iff.1 h0
  subst e
  exact⟨none,0,rfl,by simp,fun hn=>by simp at hn⟩
 ·refine⟨_,_,rfl,by simpa using hl,fun hn=>⟨g,fun i=>if hi:i<es.length then es[i].Q else fun _=>False,fun i=>if hi:i<es.length then es[i].ka else none,fun i=>if hi:i<es.length then es[i].kc else 0,rfl,hQ g ⟨hb,(Array.getElem?_eq_some_iff.1 hh).1⟩,fun j=>h.row.frozenAt j,fun i hi b hq=>?_,fun i j hi hj hij b hq hq2=>?_,fun i hi=>?_⟩⟩
  ·have hi':i<es.length:=by simpa using hi
   simp only[dif_pos hi'] at hq
   have hm:=List.getElem_mem hi'
   exact⟨hQe _ hm b hq,fun e=>((h.kid _ hm).2 b hq).2 (by rw[e];rfl)⟩
  ·have hi':i<es.length:=by simpa using hi
   have hj':j<es.length:=by simpa using hj
   simp only[dif_pos hi'] at hq
   simp only[dif_pos hj'] at hq2
   rw[List.pairwise_iff_getElem] at hap
   rcases Nat.lt_or_gt_of_ne hij with h1| h1
   ·exact hap i j hi' hj' h1 b hq hq2
   ·exact hap j i hj' hi' h1 b hq2 hq
  ·have hi':i<es.length:=by simpa using hi
   have hm:=List.getElem_mem hi'
   have es1:sth (es.map El.s) i=es[i].s:=by simp[sth,List.getD_eq_getElem?_getD,hi']
   have hc:∀j,j<5→w.cell? ⟨g,i*5+j,none⟩=(es[i]).cells[j]?:=fun j hj=>by rw[h.row.cellAt (i*5+j) (by omega),aH9 es i j hi' hj]
   simp only[dif_pos hi',es1]
   exact⟨⟨hc 0 (by omega),hc 1 (by omega),hc 2 (by omega),hc 3 (by omega),hc 4 (by omega)⟩,(hs _ hm).1,(hs _ hm).2,(h.kid _ hm).1⟩
theorem OwnT.nil(f:Nat)(w:World)(Q:Nat→Prop)(a:Option Addr):OwnT f w Q [] a:=by
 cases f with
 |zero=>rfl
 |succ f=>exact⟨by simp,fun hn=>by simp at hn⟩
theorem OwnT.sub{f:Nat}{w:World}{Q Q':Nat→Prop}{ks:List Se}{a:Option Addr}(h:OwnT f w Q ks a)(e:∀b,Q b→Q' b):OwnT f w Q' ks a:=by
 cases f with
 |zero=>exact h
 |succ f=>
  refine⟨h.1,fun hn=>?_⟩
  obtain⟨g,R,A,c,h1,h2,h3,h4,h5,h6⟩:=h.2 hn
  exact⟨g,R,A,c,h1,e g h2,h3,fun i hi b hb=>⟨e b (h4 i hi b hb).1,(h4 i hi b hb).2⟩,h5,h6⟩
end Go.Proofs.YtokmgbidmnanpaaGreatDoor
namespace Go.Proofs.YtokmgbidmnanpaaGreatDoor
open Go.RowKit Go.Shelf Go.Maps
def SA(W:World)(L:Nat)(ks:List Se)(a:Option Addr):Prop:=aAA W (fun b=>L≤b∧b<W.heap.size∧aBK W b) ks a
theorem SA.keep{W W':World}{L:Nat}{ks:List Se}{a:Option Addr}(h:SA W L ks a)(hk:∀b,L≤b→b<W.heap.size→W'.heap[b]?=W.heap[b]?)(hz:W.heap.size≤W'.heap.size):SA W' L ks a:=
 (aAA.mono h fun b hb=>hk b hb.1 hb.2.1).sub fun b hb=>⟨hb.1,Nat.lt_of_lt_of_le hb.2.1 hz,hb.2.2.of_block (hk b hb.1 hb.2.1)⟩
theorem SA.below{W W':World}{L:Nat}{ks:List Se}{a:Option Addr}(h:SA W L ks a)(hb:Below W.heap.size W W'):SA W' L ks a:=h.keep (fun b _ h2=>hb.block b h2) hb.size
theorem SA.low{W:World}{L L':Nat}{ks:List Se}{a:Option Addr}(h:SA W L ks a)(hl:L'≤L):SA W L' ks a:=aAA.sub h fun b hb=>⟨Nat.le_trans hl hb.1,hb.2⟩
theorem SA.old{W:World}{L:Nat}{ks:List Se}{a:Option Addr}(h:SA W L ks a):aAA W (·<W.heap.size) ks a:=aAA.sub h fun b hb=>hb.2.1
theorem SA.one{w:World}{L N:Nat}{nm:ByteArray}(hL:L≤N)(h:w.heap[N]?=some (.cells #[.string ⟨#[]⟩,.string nm,.bool false,.int .i64 0,.slice none 0 0] 56 (0,0)))(hs:nm.size≤1048576):SA w L [⟨⟨#[]⟩,nm,false,0,[]⟩] (some ⟨N,0,none⟩):=by
 have hN:N<w.heap.size:=(Array.getElem?_eq_some_iff.1 h).1
 refine⟨by simp,fun i j=>(#[Value.string ⟨#[]⟩,.string nm,.bool false,.int .i64 0,.slice none 0 0]:Array Value).getD j (.bool false),fun _=>⟨N,0,rfl,⟨hL,hN,⟨_,_,_,h⟩,fun a ha=>by simp[World.frozen?,ha,h]⟩,fun i hi j hj=>?_⟩,fun i hi=>?_⟩
 ·have:i=0:=by simp at hi;omega
  subst this
  have hj':j=0∨j=1∨j=2∨j=3∨j=4:=by omega
  rcases hj' with rfl| rfl| rfl| rfl| rfl<;>simp[World.cell?,h]
 ·have:i=0:=by simp at hi;omega
  subst this
  exact aDZ.of_kids (s:=⟨#[]⟩) (n:=nm) (o:=false) (id:=0) (ks:=[]) (ka:=none) (kc:=0) (by decide) (by unfold maxLen;omega) ⟨by simp,fun _ _=>.bool false,fun hn=>by simp at hn,fun i hi=>by simp at hi⟩
def NewA(w:World)(ks:List Se)(e:Ending)(w':World):Prop:=∃a c,e=.returned (.slice a ks.length c)∧aAA w' (fun b=>w.heap.size≤b∧b<w'.heap.size∧aBK w' b) ks a∧Below w.heap.size w w'
def RowA(w:World)(ks:List Se)(e:Ending)(w':World):Prop:=∃(es:List El) (v:Value),e=.returned v∧es.map El.s=ks∧RowP aAA w.heap.size es v w'∧(∀e∈ es,∀b,e.Q b→w.heap.size≤b∧aBK w' b)∧(¬v=.slice none 0 0)∧(∀e∈ es,e.s.al.size≤maxLen∧e.s.name.size≤maxLen)∧Below w.heap.size w w'
theorem RowA.new{w w':World}{ks:List Se}{e:Ending}(h:RowA w ks e w')(hl:ks.length≤1000000):NewA w ks e w':=by
 obtain⟨es,v,rfl,hm,hr,hq,hn,hz,hb⟩:=h
 have hel:es.length=ks.length:=by rw[←hm];simp
 obtain⟨a,c,e,hRR,-⟩:=hr.repsA (by omega) hz (fun e he b hb=>hq e he b hb) (hr.form hn)
 rw[hm] at hRR
 exact⟨a,c,by rw[e,hel],hRR,hb⟩
set_option maxRecDepth 20000 in
set_option maxHeartbeats 3200000 in
theorem aJQ:∀(f:Nat) (ks:List Se) (w:World) (P:Nat→Prop) (ka:Option Addr) (kc:Nat),FitS f ks→aBX f ks ks.length≤1000000→aAA w P ks ka→(∀b,P b→b<w.heap.size)→
  Calls Tryz.prog 59 #[.slice ka ks.length kc] w fun e w'=>RowA w ks e w':=by
 intro f
 induction f with
 |zero=>
  intro ks w P ka kc hf hcn hR hB
  have e:ks=[]:=hf
  subst e
  go_enter Tryz.func59,Tryz.ntmps59
  go_wp2_with fail
  go_loopw [3,4] (fun o i wr=>i=.int .i64 0∧o=.slice (some ⟨w.heap.size,0,none⟩) 0 0∧wr=w.alloc (.cells #[] 56)) (fun _ _ _=>0)
  case atStart=>exact⟨rfl,rfl,rfl⟩
  case round=>
   obtain⟨rfl,rfl,rfl⟩:=hrel
   go_wp2_with fail
   go_ret
   exact⟨[],_,rfl,rfl,RowP.new w,(fun e he=>by cases he),(by simp),(fun e he=>by cases he),aA2 _ _⟩
 |succ f IH=>
  intro ks w P ka kc hf hcn hR hB
  obtain⟨i0,hi0,hz0,hz1,hz2⟩:=info_parts aL2
  have h72:=hR.1
  have HR:=aA0 hR
  clear hR
  go_enter Tryz.func59,Tryz.ntmps59
  go_wp2_with fail
  go_loopw [3,4] (fun o i wr=>∃(k:Nat) (es:List El),k≤ks.length∧i=.int .i64 k∧Hid (es.length=k)∧Hid (es.map El.s=ks.take k)∧Hid (RowP aAA w.heap.size es o wr)∧Hid (∀e∈ es,∀b,e.Q b→w.heap.size≤b∧aBK wr b)∧Hid (¬o=.slice none 0 0)∧Below w.heap.size w wr) (fun _ i _=>ks.length- (intOf i).toNat)
  case atStart=>exact⟨0,[],Nat.zero_le _,rfl,aA0 rfl,aA0 (by simp),aA0 (RowP.new w),aA0 (fun e he=>by cases he),aA0 (by simp),aA2 _ _⟩
  case round=>
   obtain⟨k,es,hk,rfl,HEL,HM,HO,HQ,HNN,hb⟩:=hrel
   obtain⟨w2,rfl⟩:∃x,x=wr:=⟨wr,rfl⟩
   have zb:=hb.size
   by_cases hlt:k<ks.length
   case neg=>
    have e:k=ks.length:=by omega
    subst e
    have HMM:=aA0 (show es.map El.s=ks by rw[HM.out,List.take_length])
    have hlen:=aIC hf hcn
    have HSZ:=aA0 (show∀e∈ es,e.s.al.size≤maxLen∧e.s.name.size≤maxLen from fun e he=>by
     have hm:e.s∈ ks:=by rw[←HMM.out];exact List.mem_map.2 ⟨e,he,rfl⟩
     obtain⟨-,C,-,hr⟩:=HR.out
     obtain⟨i,hi,ei⟩:=List.mem_iff_getElem.1 hm
     have es1:sth ks i=e.s:=by simp[sth,List.getD_eq_getElem?_getD,hi,ei]
     obtain⟨-,-,-,-,-,-,-,h1,h2,-⟩:=(hr i hi).pieces
     rw[es1] at h1 h2
     exact⟨h1,h2⟩)
    obtain⟨oa,oc,rfl⟩:=HO.out.slice
    go_wp2_with fail
    go_ret
    exact⟨es,_,rfl,HMM.out,HO.out,HQ.out,HNN.out,HSZ.out,hb⟩
   have hki:(k:Int)<(ks.length:Int):=by omega
   obtain⟨-,C,hA,hr⟩:=HR.out.mono fun b hb2=>hb.block b (hB b hb2)
   obtain⟨kb,koff,rfl,hkB,hkc⟩:=hA (by omega)
   have hkW:=hB kb hkB
   obtain⟨sa,sc,e0,e1,e2,e3,e4,hal,hnm,hKids⟩:=(hr k hlt).pieces
   have q0:w2.cell? ⟨kb,koff+k*5,none⟩=some (.string (sth ks k).al):=e0▸hkc k hlt 0 (by omega)
   have q1:w2.cell? ⟨kb,koff+k*5+1,none⟩=some (.string (sth ks k).name):=e1▸hkc k hlt 1 (by omega)
   have q2:w2.cell? ⟨kb,koff+k*5+2,none⟩=some (.bool (sth ks k).one):=e2▸hkc k hlt 2 (by omega)
   have q3:w2.cell? ⟨kb,koff+k*5+3,none⟩=some (.int .i64 (sth ks k).id):=e3▸hkc k hlt 3 (by omega)
   have q4:w2.cell? ⟨kb,koff+k*5+4,none⟩=some (.slice sa (sth ks k).kids.length sc):=e4▸hkc k hlt 4 (by omega)
   have HT:=aA0 (aT4 ks k hlt)
   have hc1:=aEH (f+1) ks (show k+1≤ks.length by omega)
   rw[aBN,aBD] at hc1
   have HIH:=aA0 (fun W (hW:Below w2.heap.size w2 W)=>(IH (sth ks k).kids W P sa sc (hf k hlt) (by omega) (hKids.mono fun j hj=>hW.block j (by have:=hB j hj;omega)) (fun j hj=>by have:=hB j hj;have:=hW.size;omega)).mono fun e w' h=>h.new (aIC (hf k hlt) (by omega)))
   have HSZ:=aA0 (And.intro hal hnm)
   clear e0 e1 e2 e3 e4 hkc hr hA hKids IH hc1 hal hnm
   generalize sth ks k=s at*
   go_wp2_with fail
   refine(HIH.out _ (aA2 w2 _)).mono ?_
   rintro e w3 ⟨a3,c3,rfl,hR3,hb3⟩
   have z3:w2.heap.size+1≤w3.heap.size:=by have:=hb3.size;simpa using this
   have hbk:w3.heap[w2.heap.size]?=some (.cells #[.string s.al,.string s.name,.bool s.one,.int .i64 s.id,.slice sa s.kids.length sc] 56 (0,0)):=(hb3.block _ (by simp)).trans (heap_alloc_new w2 _)
   have hb3':Below w2.heap.size w2 w3:=(aA2 w2 _).trans (hb3.mono (by simp))
   have p0:w3.cell? ⟨w2.heap.size,0,none⟩=some (.string s.al):=by simp[World.cell?,hbk]
   have p1:w3.cell? ⟨w2.heap.size,1,none⟩=some (.string s.name):=by simp[World.cell?,hbk]
   have p2:w3.cell? ⟨w2.heap.size,2,none⟩=some (.bool s.one):=by simp[World.cell?,hbk]
   have p3:w3.cell? ⟨w2.heap.size,3,none⟩=some (.int .i64 s.id):=by simp[World.cell?,hbk]
   have p4:w3.cell? ⟨w2.heap.size,4,none⟩=some (.slice sa s.kids.length sc):=by simp[World.cell?,hbk]
   have p5:w3.frozen? ⟨w2.heap.size,4,none⟩=false:=by simp[World.frozen?,hbk]
   have HR3:=aA0 hR3
   have HB3:=aA0 hb3
   have HBK:=aA0 hbk
   clear hR3 hb3 hbk q0 q1 q2 q3 q4 HIH
   obtain⟨W,hW⟩:∃W,W=w3.setCell ⟨w2.heap.size,4,none⟩ (.slice a3 s.kids.length c3):=⟨_,rfl⟩
   have hbW:Below w2.heap.size w2 W:=by rw[hW];exact hb3'.setCell (Nat.le_refl _) _
   have zW:W.heap.size=w3.heap.size:=by rw[hW];simp[World.setCell]
   have hWk:∀b,b≠w2.heap.size→W.heap[b]?=w3.heap[b]?:=fun b hb=>by rw[hW];exact Below.heap_setCell _ _ _ _ hb
   have hal1:(w2.alloc (.cells #[.string s.al,.string s.name,.bool s.one,.int .i64 s.id,.slice sa s.kids.length sc] 56)).heap.size=w2.heap.size+1:=by simp
   have HRW:=aA0 (HR3.out.mono (w':=W) fun b hq=>hWk b (by have:=hq.1;omega))
   have HOW:=aA0 (HO.out.keep aDP hbW)
   have hrow:=HOW.out.row
   obtain⟨g,cap,rfl⟩:=HO.out.form HNN.out
   have HOL:=aA0 (fun j=>HO.out.row.lt j)
   have hesl:es.length≤1000000:=by
    have:=aIC (f:=f+1) (ks:=ks) hf hcn
    have:=HEL.out
    omega
   have hesk:es.length+1≤1000000:=by
    have:=aIC (f:=f+1) (ks:=ks) hf hcn
    have:=HEL.out
    omega
   go_wp2_with (
    at_builtin
    rw[←hW]
    refine wpList_append_own_at _ rfl _ _ 23 rfl w.heap.size 56 i0 aP8 5 72 Tryz.underlying23 hi0 hz0 hz1 hz2 rfl (by decide) _ es.length _ rfl (hrow.alloc _) ⟨w3.heap.size,0,none⟩ 1 1 [.string s.al,.string s.name,.bool s.one,.int .i64 s.id,.slice a3 s.kids.length c3] rfl rfl (by rw[←zW];exact World.news_of_block (heap_alloc_new W _)) (by intro u hu;simp at hu;rcases hu with rfl| rfl| rfl| rfl| rfl<;>rfl) (by unfold maxLen;omega) (by omega) (by simp;omega) ?_
    intro v' w4 hown hgrow hnn hob
    refine Hid.out ?_)
   refine aA0 ?_
   have hpush:=RowP.push aDP (HOW.out.keep aDP (aA2 W _)) ⟨s,a3,c3,fun b=>w2.heap.size+1≤b∧b<w3.heap.size∧aBK w3 b⟩ rfl rfl hown hgrow hob (aDP _ _ _ _ _ (HRW.out.sub fun b hq=>⟨by omega,hq.2.1,hq.2.2⟩) fun b hq=>(aA2 W _).block b (by omega)) (fun b hq=>⟨by simp;omega,fun e2=>by have:=(HOL.out b e2).2;have:=hq.1;omega⟩)
   have z4:w3.heap.size+1≤w4.heap.size:=by have:=hgrow.size;simp at this;omega
   have hb4:Below w.heap.size w w4:=((hb.trans (hbW.mono zb)).alloc (by omega) _).grown hgrow (by simp;omega) (fun j hj=>(HOL.out j hj).1)
   have HP:=aA0 hpush
   have HQ4:Hid (∀e∈ es++[⟨s,a3,c3,fun b=>w2.heap.size+1≤b∧b<w3.heap.size∧aBK w3 b⟩],∀b,e.Q b→w.heap.size≤b∧aBK w4 b):=aA0 (by
    have hk4:∀b,b<W.heap.size→Value.ownBlock (.slice (some ⟨g,0,none⟩) es.length cap)≠some b→w4.heap[b]?=W.heap[b]?:=fun b h1 h2=>(hgrow.block b (by simp;omega) (fun e=>h2 e.symm)).trans ((aA2 W _).block b h1)
    intro e he b hq
    rcases List.mem_append.1 he with he| he
    ·obtain⟨h1,h2⟩:=HQ.out e he b hq
     obtain⟨h3,h4⟩:=(HO.out.kid e he).2 b hq
     exact⟨h1,h2.of_block ((hk4 b (by omega) h4).trans (hbW.block b h3))⟩
    ·rw[List.mem_singleton.1 he] at hq
     have h1:=hq.1
     exact⟨by omega,hq.2.2.of_block ((hk4 b (by have:=hq.2.1;omega) (fun e2=>by have:=(HOL.out b e2).2;omega)).trans (hWk b (by omega)))⟩)
   have HN4:=aA0 (fun e=>absurd (hnn.1 e).2 (by decide):¬v'=.slice none 0 0)
   obtain⟨g4,cap4,rfl⟩:=hpush.form HN4.out
   clear hown hgrow hnn hob hpush
   go_wp2_with fail
   go_roundw
   case measure=>simp[intOf];omega
   case rel=>
    refine⟨k+1,_,by omega,by go_num,aA0 (by simp[HEL.out]),aA0 ?_,HP,HQ4,HN4,hb4⟩
    rw[List.map_append,HM.out,←HT.out];rfl
end Go.Proofs.YtokmgbidmnanpaaGreatDoor
namespace Go.Proofs.YtokmgbidmnanpaaGreatDoor
open Go.RowKit Go.Shelf Go.Maps
theorem aRU{α:Type}{l:List α}{i:Nat}{x y:α}(h:y∈ l.set i x):y∈ l∨y=x:=List.mem_or_eq_of_mem_set h
theorem aIN(e:El):e.cells.length=5:=rfl
end Go.Proofs.YtokmgbidmnanpaaGreatDoor
namespace Go.Proofs.YtokmgbidmnanpaaGreatDoor
open Go.RowKit Go.Shelf Go.Maps
def aP5(w:World)(rb cb q0 d:Nat)(e:Ending)(w':World):Prop:=∃(ks:List Se) (a:Option Addr) (c q':Nat),e=.returned (.slice a ks.length c)∧SA w' w.heap.size ks a∧RdOk w' rb cb q'∧(q'≤q0+3*(d+1)∧ks.length≤c)∧Only (·=rb) w w'∧Tr 4 (d+1) ks
theorem aME:∀(es:List El) (i j:Nat) (v:Value) (e':El) (hi:i<es.length),j<5→e'.cells=(es[i]).cells.set j v→(es.flatMap El.cells).set (i*5+j) v=(es.set i e').flatMap El.cells
 |[],i,j,v,e',hi,_,_=>by simp at hi
 |e::es,0,j,v,e',hi,hj,h=>by
  simp only[List.flatMap_cons,List.set_cons_zero,List.getElem_cons_zero] at h ⊢
  rw[h,Nat.zero_mul,Nat.zero_add,List.set_append_left _ _ (by rw[aIN];omega)]
 |e::es,i+1,j,v,e',hi,hj,h=>by
  simp only[List.flatMap_cons,List.set_cons_succ,List.getElem_cons_succ] at h ⊢
  rw[List.set_append_right _ _ (by rw[aIN];omega),aIN,show(i+1)*5+j- 5=i*5+j by omega,aME es i j v e' (by simpa using hi) hj h]
structure XS(w:World)(rb cb d q:Nat)(es:List El)(g cap:Nat)(wx:World):Prop where
 rd:RdOk wx rb cb q
 row:RowP aAA w.heap.size es (.slice (some ⟨g,0,none⟩) es.length cap) wx
 own:∀e∈ es,(∀b,e.Q b→w.heap.size≤b∧aBK wx b)∧e.s.al.size≤1048576∧e.s.name.size≤1048576∧Tr 4 d e.s.kids
 only:Only (·=rb) w wx
 rlt:rb<w.heap.size
 clt:cb<w.heap.size
theorem XS.move{w:World}{rb cb d q q':Nat}{es:List El}{g cap:Nat}{wr W:World}(h:XS w rb cb d q es g cap wr)(hr:RdOk W rb cb q')(ho:Only (·=rb) wr W):XS w rb cb d q' es g cap W:=by
 have hlt:=h.rlt
 have hk:∀b,w.heap.size≤b→b<wr.heap.size→W.heap[b]?=wr.heap[b]?:=fun b h1 h2=>ho.block b h2 (by omega)
 refine⟨hr,⟨?_,fun e he=>?_⟩,fun e he=>⟨fun b hb=>⟨((h.own e he).1 b hb).1,((h.own e he).1 b hb).2.of_block (hk b ((h.own e he).1 b hb).1 ((h.row.kid e he).2 b hb).1)⟩,(h.own e he).2⟩,h.only.trans ho fun _ _ q=>q,h.rlt,h.clt⟩
 ·exact aAT h.row.row fun b hb=>hk b (h.row.row.lt b hb).1 (h.row.row.lt b hb).2
 ·obtain⟨h1,h2⟩:=h.row.kid e he
  exact⟨h1.mono fun b hb=>hk b ((h.own e he).1 b hb).1 (h2 b hb).1,fun b hb=>⟨Nat.lt_of_lt_of_le (h2 b hb).1 ho.size,(h2 b hb).2⟩⟩
theorem XS.below{w:World}{rb cb d q:Nat}{es:List El}{g cap:Nat}{wr W:World}(h:XS w rb cb d q es g cap wr)(hb:Below wr.heap.size wr W):XS w rb cb d q es g cap W:=
 h.move (h.rd.only (Only.of_below (fun _=>False) hb) id id) (Only.of_below _ hb)
theorem XS.cells{w:World}{rb cb d q:Nat}{es:List El}{g cap:Nat}{wr:World}(h:XS w rb cb d q es g cap wr)(i:Nat)(hi:i<es.length):aHP wr g (i*5) (es[i]).s (es[i]).ka (es[i]).kc∧g<wr.heap.size∧w.heap.size≤g∧∀j,wr.frozen? ⟨g,j,none⟩=false:=by
 have hc:∀j,j<5→wr.cell? ⟨g,i*5+j,none⟩=(es[i]).cells[j]?:=fun j hj=>by rw[h.row.row.cellAt (i*5+j) (by omega),aH9 es i j hi hj]
 have hl:=h.row.row.lt g rfl
 exact⟨⟨hc 0 (by omega),hc 1 (by omega),hc 2 (by omega),hc 3 (by omega),hc 4 (by omega)⟩,hl.2,hl.1,fun j=>h.row.row.frozenAt j⟩
theorem XS.put{w:World}{rb cb d q:Nat}{es:List El}{g cap:Nat}{wx:World}(h:XS w rb cb d q es g cap wx)(i:Nat)(hi:i<es.length)(j:Nat)(hj:j<5)(v:Value)(e':El)(he:e'.cells=(es[i]).cells.set j v)
  (hO:aAA wx e'.Q e'.s.kids e'.ka) (hq:∀b,e'.Q b→b<wx.heap.size∧b≠g∧w.heap.size≤b∧aBK wx b) (hs:e'.s.al.size≤1048576∧e'.s.name.size≤1048576∧Tr 4 d e'.s.kids):XS w rb cb d q (es.set i e') g cap (wx.setCell ⟨g,i*5+j,none⟩ v):=by
 have hset:∀b,b≠g→(wx.setCell ⟨g,i*5+j,none⟩ v).heap[b]?=wx.heap[b]?:=fun b hb=>Below.heap_setCell _ _ _ _ hb
 have hl:=h.row.row.lt g rfl
 have h1:=h.rlt
 have h2:=h.clt
 refine⟨h.rd.keep (hset rb (by omega)) (hset cb (by omega)) (by simp),⟨?_,fun y hy=>?_⟩,fun y hy=>?_,h.only.set _ _ (Or.inr hl.1) _,h1,h2⟩
 ·obtain⟨h1,-⟩:=h.row.row.stored (i*5+j) v
  rw[aME es i j v e' hi hj he] at h1
  simpa using h1
 ·rw[List.length_set]
  rcases aRU hy with hy| rfl
  ·obtain⟨h1,h2⟩:=h.row.kid y hy
   refine⟨h1.mono fun b hb=>hset b fun e=>(h2 b hb).2 (by rw[e];rfl),fun b hb=>⟨by rw[aAZ];exact(h2 b hb).1,(h2 b hb).2⟩⟩
  ·exact⟨hO.mono fun b hb=>hset b (hq b hb).2.1,fun b hb=>⟨by rw[aAZ];exact(hq b hb).1,fun e=>(hq b hb).2.1 (by simpa[Value.ownBlock] using e.symm)⟩⟩
 ·rcases aRU hy with hy| rfl
  ·exact⟨fun b hb=>⟨((h.own y hy).1 b hb).1,((h.own y hy).1 b hb).2.of_block (hset b fun e=>((h.row.kid y hy).2 b hb).2 (by rw[e];rfl))⟩,(h.own y hy).2⟩
  ·exact⟨fun b hb=>⟨(hq b hb).2.2.1,(hq b hb).2.2.2.of_block (hset b (hq b hb).2.1)⟩,hs⟩
theorem XS.fin{w:World}{rb cb d q q0:Nat}{es:List El}{g cap:Nat}{wx:World}(h:XS w rb cb (d+1) q es g cap wx)(hl:es.length≤4)(hq:q≤q0+3*(d+1+1)):aP5 w rb cb q0 (d+1) (.returned (.slice (some ⟨g,0,none⟩) es.length cap)) wx:=by
 obtain⟨a,c,e,hR,hcap⟩:=h.row.repsA (by omega) (fun e he=>by have:=(h.own e he).2;have h1:=this.1;have h2:=this.2.1;unfold maxLen;exact⟨by omega,by omega⟩) (fun e he b hb=>(h.own e he).1 b hb) ⟨_,_,rfl⟩
 have hm:(es.map El.s).length=es.length:=by simp
 exact⟨es.map El.s,a,c,q,by rw[hm,e],hR,h.rd,⟨hq,by rw[hm];exact hcap⟩,h.only,by rw[hm];exact hl,fun s hs=>by obtain⟨x,hx,rfl⟩:=List.mem_map.1 hs;exact(h.own x hx).2⟩
theorem RowA.start{w w1:World}{rb cb d q:Nat}{ks:List Se}{e:Ending}(hR:RdOk w rb cb q)(hT:Tr 3 (d+1) ks)(h:RowA w ks e w1):∃es g cap,e=.returned (.slice (some ⟨g,0,none⟩) es.length cap)∧es.length=ks.length∧XS w rb cb (d+1) q es g cap w1∧(∀i (hi:i<es.length),Tr 3 d (es[i]).s.kids):=by
 obtain⟨es,v,rfl,hm,hr,hq,hn,hz,hb⟩:=h
 obtain⟨g,cap,rfl⟩:=hr.form hn
 obtain⟨h1,h2,-⟩:=hR.lt
 have hin:∀e∈ es,e.s∈ ks:=fun e he=>by rw[←hm];exact List.mem_map.2 ⟨e,he,rfl⟩
 exact⟨es,g,cap,rfl,by rw[←hm];simp,⟨hR.only (Only.of_below (fun _=>False) hb) id id,hr,fun e he=>⟨fun b hb=>hq e he b hb,(hT.2 _ (hin e he)).1,(hT.2 _ (hin e he)).2.1,Tr.up (by omega) (by omega) (hT.2 _ (hin e he)).2.2⟩,Only.of_below _ hb,h1,h2⟩,fun i hi=>(hT.2 _ (hin _ (List.getElem_mem hi))).2.2⟩
theorem XS.kid{w:World}{rb cb d q:Nat}{es:List El}{g cap:Nat}{wx:World}(h:XS w rb cb d q es g cap wx)(i:Nat)(hi:i<es.length):aAA wx (es[i]).Q (es[i]).s.kids (es[i]).ka∧(∀b,(es[i]).Q b→b<wx.heap.size∧b≠g∧w.heap.size≤b∧aBK wx b)∧(es[i]).s.al.size≤1048576∧(es[i]).s.name.size≤1048576∧Tr 4 d (es[i]).s.kids:=by
 have hm:=List.getElem_mem hi
 obtain⟨h1,h2⟩:=h.row.kid _ hm
 obtain⟨h3,h4⟩:=h.own _ hm
 exact⟨h1,fun b hb=>⟨(h2 b hb).1,fun e=>(h2 b hb).2 (by rw[e];rfl),(h3 b hb).1,(h3 b hb).2⟩,h4⟩
theorem XS.push{w:World}{rb cb d q:Nat}{es:List El}{g cap:Nat}{v':Value}{W W':World}(h:XS w rb cb d q es g cap W)(e:El){xs:List Value}(hx:xs=e.cells)
  (hr:W'.ownsRow w.heap.size 56 5 v' (es.length+1) (es.flatMap El.cells++xs)) (hg:W.grownBy W' (Value.slice (some ⟨g,0,none⟩) es.length cap).ownBlock) (hob:v'.ownBlock=(Value.slice (some ⟨g,0,none⟩) es.length cap).ownBlock∨v'.ownBlock=some W.heap.size)
  (hk:aAA W e.Q e.s.kids e.ka) (hq:∀b,e.Q b→b<W.heap.size∧b≠g∧w.heap.size≤b∧aBK W b) (hs:e.s.al.size≤1048576∧e.s.name.size≤1048576∧Tr 4 d e.s.kids):∃g' cap',v'=.slice (some ⟨g',0,none⟩) (es.length+1) cap'∧XS w rb cb d q (es++[e]) g' cap' W':=by
 have hrl:=h.rlt
 have hcl:=h.clt
 have hrd:=h.rd.lt
 have hl:=h.row.row.lt g rfl
 have hne:∀b,b≠g→(Value.slice (some ⟨g,0,none⟩) es.length cap).ownBlock≠some b:=fun b hb e=>hb (by simpa[Value.ownBlock] using e.symm)
 have hkb:∀b,b<W.heap.size→b≠g→W'.heap[b]?=W.heap[b]?:=fun b h1 h2=>hg.block b h1 fun e=>hne b h2 e.symm
 have hp:=h.row.push aDP e hx rfl hr hg hob hk (fun b hb=>⟨(hq b hb).1,hne b (hq b hb).2.1⟩)
 rcases hr.2 with⟨-,h0⟩| ⟨g',cap',cur,e2,-⟩
 ·omega
 ·subst e2
  have hlen:(es++[e]).length=es.length+1:=by simp
  refine⟨g',cap',rfl,h.rd.keep (hkb rb hrd.1 (by omega)) (hkb cb hrd.2.1 (by omega)) hg.size,by rw[hlen];exact hp,fun y hy=>?_,h.only.grown hg fun k hk2=>Or.inr (h.row.row.lt k hk2).1,hrl,hcl⟩
  rcases List.mem_append.1 hy with hy| hy
  ·exact⟨fun b hb=>⟨((h.own y hy).1 b hb).1,((h.own y hy).1 b hb).2.of_block (hg.block b ((h.row.kid y hy).2 b hb).1 fun e2=>((h.row.kid y hy).2 b hb).2 e2.symm)⟩,(h.own y hy).2⟩
  ·rw[List.mem_singleton.1 hy];exact⟨fun b hb=>⟨(hq b hb).2.2.1,(hq b hb).2.2.2.of_block (hkb b (hq b hb).1 (hq b hb).2.1)⟩,hs⟩
theorem aP7(m:Nat):∀{d e:Nat},d≤e→trN m d≤trN m e
 |0,_,_=>Nat.zero_le _
 |d+1,0,h=>absurd h (by omega)
 |d+1,e+1,h=>by
  have:=aP7 m (show d≤e by omega)
  rw[trN,trN]
  exact Nat.mul_le_mul_left _ (by omega)
theorem aR8(W:World)(rb cb q g M:Nat)(hM:M≤maxLen)(hR:RdOk W rb cb q)(hq:q≤100000)(ns:List ByteArray)(h0:0<ns.length)(hl:ns.length≤10)(hs:∀s∈ ns,s.size≤M)(hb:W.heap[g]?=some (.cells (ns.map Value.string).toArray 9 (0,0)))(hg:g≠rb):
  Calls Tryz.prog 57 #[.pointer (some ⟨rb,0,none⟩),.slice (some ⟨g,0,none⟩) ns.length ns.length] W fun e w'=>∃s:ByteArray,e=.returned (.string s)∧s.size≤M∧RdOk w' rb cb (q+1)∧Only (·=rb) W w':=by
 have hn:∀i,i<ns.length→(nth ns i)∈ ns:=fun i hi=>by simp[nth,List.getD_eq_getElem?_getD,hi]
 have hS:Strs W (·=g) ns (some ⟨g,0,none⟩):=by
  refine⟨fun _=>⟨_,0,rfl,rfl,fun i hi=>?_⟩,fun i=>?_,by unfold maxLen;omega⟩
  ·rw[Nat.zero_add,cell_of_row _ _ _ _ _ _ hb]
   simp[nth,List.getD_eq_getElem?_getD,hi]
  ·by_cases hi:i<ns.length
   ·exact Nat.le_trans (hs _ (hn i hi)) hM
   ·simp[nth,List.getD_eq_getElem?_getD,hi]
 refine(aTL W rb cb q ns _ ns.length (·=g) hR (by omega) hS (fun b hb'=>by have hb':b=g:=hb';subst hb';exact⟨(Array.getElem?_eq_some_iff.1 hb).1,hg⟩) h0 (by omega)).mono ?_
 rintro e w' ⟨k,hk,rfl,h1,h2,h3⟩
 exact⟨_,rfl,hs _ (hn k hk),h1,h2⟩
end Go.Proofs.YtokmgbidmnanpaaGreatDoor
