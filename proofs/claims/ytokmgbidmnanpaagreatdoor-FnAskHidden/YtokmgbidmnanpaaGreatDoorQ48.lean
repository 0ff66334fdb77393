import Derived.Test.YtokmgbidmnanpaaGreatDoorQ41
import Derived.Test.YtokmgbidmnanpaaGreatDoorQ47
import Derived.Test.YtokmgbidmnanpaaGreatDoorQ1
import Derived.Test.YtokmgbidmnanpaaGreatDoorQ32
import Derived.Test.YtokmgbidmnanpaaGreatDoorQ40
import Derived.Test.YtokmgbidmnanpaaGreatDoorQ45
import Derived.LoopIn
set_option linter.unusedSimpArgs false
set_option linter.unusedVariables false
namespace Go.Proofs.YtokmgbidmnanpaaGreatDoor
open Go.RowKit
theorem aPI(q:Nat→Bool):∀n,aAJ q n=true→∀i,i<n→q i=true
 |0,_,i,hi=>absurd hi (Nat.not_lt_zero _)
 |n+1,h,i,hi=>by
  rw[aAJ,Bool.and_eq_true] at h
  by_cases e:i=n
  ·subst e;exact h.2
  ·exact aPI q n h.1 i (by omega)
theorem aPX{ps:List Pt}{okp:Pt→Bool}(h:aBO ps okp=true):0<ps.length∧ps.length≤4∧∀i,i<ps.length→okp (pth ps i)=true:=by
 unfold aBO at h
 simp only[Bool.and_eq_true,decide_eq_true_eq] at h
 refine⟨h.1.1.1,h.1.1.2,fun i hi=>?_⟩
 have:=aPI _ _ h.1.2 i hi
 unfold aK6 at this
 rw[Bool.and_eq_true] at this
 exact this.1
theorem aH1(fs:List F)(k:Nat):∀n,k<n→szF (fth fs k)≤aBY fs n
 |0,h=>absurd h (Nat.not_lt_zero _)
 |n+1,h=>by
  rw[aD0]
  by_cases e:k=n
  ·subst e;omega
  ·have:=aH1 fs k n (by omega)
   omega
theorem aSJ(ps:List Pt)(hz:∀i,i<ps.length→szP (pth ps i)≤1048576)(i k n:Nat):(fth (tth (pth ps i).types k).fields n).needs.length≤1000000000:=by
 by_cases hi:i<ps.length
 ·have h0:=hz i hi
  have h1:szP (pth ps i)=(pth ps i).name.size+((pth ps i).types.length+aBT (pth ps i).types (pth ps i).types.length):=rfl
  generalize pth ps i=p at*
  by_cases hk:k<p.types.length
  ·have h2:=aEL p.types k p.types.length hk
   have h3:szT (tth p.types k)=(tth p.types k).name.size+(tth p.types k).key.size+((tth p.types k).fields.length+aBY (tth p.types k).fields (tth p.types k).fields.length):=rfl
   generalize tth p.types k=t at*
   by_cases hn:n<t.fields.length
   ·have h4:=aH1 t.fields n t.fields.length hn
    have h5:szF (fth t.fields n)=(fth t.fields n).name.size+(fth t.fields n).of.size+((fth t.fields n).needs.length+aDD (fth t.fields n).needs (fth t.fields n).needs.length):=rfl
    omega
   ·have:fth t.fields n=F.zero:=by simp[fth,List.getD_eq_getElem?_getD,List.getElem?_eq_none (Nat.le_of_not_lt hn)]
    rw[this]
    exact Nat.zero_le _
  ·have e1:tth p.types k=T.zero:=by simp[tth,List.getD_eq_getElem?_getD,List.getElem?_eq_none (Nat.le_of_not_lt hk)]
   rw[e1]
   have:fth T.zero.fields n=F.zero:=by simp[fth,T.zero]
   rw[this]
   exact Nat.zero_le _
 ·have e0:pth ps i=Pt.zero:=by simp[pth,List.getD_eq_getElem?_getD,List.getElem?_eq_none (Nat.le_of_not_lt hi)]
  rw[e0]
  have e1:tth Pt.zero.types k=T.zero:=by simp[tth,Pt.zero]
  rw[e1]
  have:fth T.zero.fields n=F.zero:=by simp[fth,T.zero]
  rw[this]
  exact Nat.zero_le _
end Go.Proofs.YtokmgbidmnanpaaGreatDoor
namespace Go.Proofs.YtokmgbidmnanpaaGreatDoor
open Go.RowKit Go.Shelf Go.Maps
theorem aIT(a c:Value)(w:World):Sem.run Tryz.prog (Instr.field 48 (.agg #[a,c]) 1) w=.ok c w:=by
 simp[Instr.field,Tryz.underlying48,asAgg,go_sem]
attribute [local go_sem] Oper.semAt_some aIT
def aAM(f:Nat)(p:Pt)(ks:List Se):List ByteArray:=if aCE (aBM f p ks)=0 then aAD p f qry ks ks.length [] else[]
structure aFE(fb:Nat)(A:World)(v:Value)(B:World)(v':Value):Prop where
 size:A.heap.size≤B.heap.size
 os:B.os=A.os
 tape:B.tape=A.tape
 output:B.output=A.output
 block:∀b,b<A.heap.size→b≠fb→v.ownBlock≠some b→B.heap[b]?=A.heap[b]?
 lies:v'.ownBlock=v.ownBlock∨∃g,v'.ownBlock=some g∧A.heap.size≤g
 box:B.heap[fb]?=some (.cells #[v'] 29 (0,0))
theorem aFE.start{fb:Nat}{A:World}{v:Value}(h:A.heap[fb]?=some (.cells #[v] 29 (0,0))):aFE fb A v A v:=⟨Nat.le_refl _,rfl,rfl,rfl,fun _ _ _ _=>rfl,Or.inl rfl,h⟩
theorem aFE.step{fb:Nat}{A B C:World}{u v x:Value}(h:aFE fb A u B v)(k:Grew B v C x)(hn:v.ownBlock≠some fb)(hlt:fb<A.heap.size):aFE fb A u (C.setCell ⟨fb,0,none⟩ x) x:=by
 refine⟨by rw[aAZ];exact Nat.le_trans h.size k.size,k.os.trans h.os,k.tape.trans h.tape,k.output.trans h.output,fun b hb h1 h2=>?_,?_,?_⟩
 ·rw[Below.heap_setCell _ _ _ _ h1]
  refine(k.block b (Nat.lt_of_lt_of_le hb h.size) fun e=>?_).trans (h.block b hb h1 h2)
  rcases h.lies with e2| ⟨g,e2,hg⟩
  ·exact h2 (e2▸e)
  ·rw[e2] at e;simp only[Option.some.injEq] at e;omega
 ·rcases k.lies with e| ⟨g,e,hg⟩
  ·rcases h.lies with e2| ⟨g,e2,hg⟩
   ·exact Or.inl (e.trans e2)
   ·exact Or.inr ⟨g,e.trans e2,hg⟩
  ·exact Or.inr ⟨g,e,Nat.le_trans h.size hg⟩
 ·rw[aA9 ((k.block fb (Nat.lt_of_lt_of_le hlt h.size) hn).trans h.box)]
  rfl
theorem aFE.nb{fb:Nat}{A B:World}{v v':Value}(h:aFE fb A v B v')(hn:v.ownBlock≠some fb)(hlt:fb<A.heap.size):v'.ownBlock≠some fb:=fun e=>by
 rcases h.lies with e2| ⟨g,e2,hg⟩
 ·exact hn (e2▸e)
 ·rw[e2] at e;simp only[Option.some.injEq] at e;omega
theorem aFE.below{fb:Nat}{A B C:World}{u v:Value}(h:aFE fb A u B v)(hb:Below B.heap.size B C)(hlt:fb<A.heap.size):aFE fb A u C v:=
 ⟨Nat.le_trans h.size hb.size,hb.os.trans h.os,hb.tape.trans h.tape,hb.output.trans h.output,fun b h1 h2 h3=>(hb.block b (Nat.lt_of_lt_of_le h1 h.size)).trans (h.block b h1 h2 h3),h.lies,(hb.block fb (Nat.lt_of_lt_of_le hlt h.size)).trans h.box⟩
structure IFd(p:Pt)(w:World)(fb:Nat)(pre:List (Way× Se× ByteArray))(O:Nat→Prop)(tv:Value)(A:World):Prop where
 box:A.heap[fb]?=some (.cells #[tv] 29 (0,0))
 row:Row9 w.heap.size A tv (aBG p [] pre)
 nb:tv.ownBlock≠some fb
 bel:Below w.heap.size w A
 own:∀b,O b↔b=fb∨tv.ownBlock=some b
theorem IFd.looks(p:Pt)(w:World)(fb Y:Nat)(hY:w.heap.size≤Y)(pre:List (Way× Se× ByteArray))(O:Nat→Prop):aCI Y O (fun A=>∃tv,IFd p w fb pre O tv A):=by
 rintro A B ⟨tv,h⟩ h1 h2 h3 h4 h5
 exact⟨tv,(h5 _ (Array.getElem?_eq_some_iff.1 h.box).1 (Or.inr ((h.own _).2 (Or.inl rfl)))).trans h.box,h.row.keep fun k hk=>h5 k (h.row.1.lt k hk).2 (Or.inr ((h.own k).2 (Or.inr hk))),h.nb,⟨h2.trans h.bel.os,h3.trans h.bel.tape,h4.trans h.bel.output,Nat.le_trans h.bel.size h1,fun b hb=>(h5 b (Nat.lt_of_lt_of_le hb h.bel.size) (Or.inl (by omega))).trans (h.bel.block b hb)⟩,h.own⟩
theorem IFd.cells{p:Pt}{w:World}{fb:Nat}{pre:List (Way× Se× ByteArray)}{O:Nat→Prop}{tv:Value}{A:World}(h:IFd p w fb pre O tv A):aDX O A:=fun b hb=>by
 rcases(h.own b).1 hb with rfl| hb
 ·exact⟨_,h.box,rfl⟩
 ·exact aEP h.row.1 hb
theorem IFd.turn{p:Pt}{w:World}{fb:Nat}{pre:List (Way× Se× ByteArray)}{O:Nat→Prop}{tv tv':Value}{A B:World}{x:Way× Se× ByteArray}(h:IFd p w fb pre O tv A)(hfb:w.heap.size≤fb)(hG:aFE fb A tv B tv')(hR:Row9 w.heap.size B tv' (aBG p [] (pre++[x]))):
  (∃O',(∃tv,IFd p w fb (pre++[x]) O' tv B)∧aBL O A B∧∀b,O' b→O b∨A.heap.size≤b)∧KeepsOthers A B:=by
 have lfb:=(Array.getElem?_eq_some_iff.1 h.box).1
 refine⟨⟨fun b=>b=fb∨tv'.ownBlock=some b,⟨tv',hG.box,hR,hG.nb h.nb lfb,?_,fun b=>Iff.rfl⟩,⟨hG.size,fun b o hb ho _=>?_⟩,fun b hb=>?_⟩,⟨hG.size,fun k o hko ho=>?_⟩⟩
 ·refine⟨hG.os.trans h.bel.os,hG.tape.trans h.bel.tape,hG.output.trans h.bel.output,Nat.le_trans h.bel.size hG.size,fun b hb=>?_⟩
  have:=h.bel.size
  exact(hG.block b (by omega) (by omega) (fun e=>by have:=(h.row.1.lt b e).1;omega)).trans (h.bel.block b hb)
 ·exact(hG.block b (Array.getElem?_eq_some_iff.1 ho).1 (fun e=>hb ((h.own b).2 (Or.inl e))) (fun e=>hb ((h.own b).2 (Or.inr e)))).trans ho
 ·rcases hb with rfl| hb
  ·exact Or.inl ((h.own _).2 (Or.inl rfl))
  ·rcases hG.lies with e2| ⟨g,e2,hg⟩
   ·exact Or.inl ((h.own _).2 (Or.inr (e2▸hb)))
   ·rw[e2] at hb
    simp only[Option.some.injEq] at hb
    exact Or.inr (by omega)
 ·refine(hG.block k (Array.getElem?_eq_some_iff.1 hko).1 (fun e=>?_) (fun e=>?_)).trans hko
  ·rw[e,h.box] at hko;cases hko;cases ho
  ·obtain⟨o2,h1,h2⟩:=aEP h.row.1 e
   rw[hko] at h1;cases h1;rw[ho] at h2;cases h2
theorem aIV(p:Pt)(hz:szP p≤1048576):∀(l:List (Way× Se× ByteArray)) (out:List ByteArray),(aBG p out l).length≤out.length+l.length*1048577
 |[],out=>by simp[aBG]
 |y::l,out=>by
  have e:aBG p out (y::l)=aBG p (aPS p out y) l:=rfl
  rw[e]
  have h1:=aIV p hz l (aPS p out y)
  have h2:=aDR (fldT y.2.2 y.2.1.name::(fldF p y.2.2 y.2.1.name).needs.map (fldT y.2.2)) out
  have h3:=(aEI p hz y.2.2 y.2.1.name).2.2.1
  have h4:(aPS p out y).length≤out.length+1048577:=by
   unfold aPS
   simp only[List.length_cons,List.length_map] at h2
   omega
  simp only[List.length_cons]
  rw[Nat.add_mul]
  omega
theorem aN4(p:Pt):∀(xs:List (Way× Se)) (T:List ByteArray),(askF p T xs).length=xs.length
 |[],T=>rfl
 |y::ys,T=>by simp[askF,aN4 p ys]
theorem aFC:∀(f:Nat) (ah:Way) (ks:List Se) (n:Nat),n≤ks.length→aEJ f ks→∀x∈ aAU f ah ks n,x.2.name.size≤1048576
 |0,ah,ks,n,hn,hs,x,hx=>by simp[aAU] at hx
 |f+1,ah,ks,0,hn,hs,x,hx=>by simp[aAU] at hx
 |f+1,ah,ks,n+1,hn,hs,x,hx=>by
  rw[aBE] at hx
  rcases List.mem_append.1 hx with hx| hx
  ·exact aFC (f+1) ah ks n (by omega) hs x hx
  ·rcases List.mem_cons.1 hx with rfl| hx
   ·exact(hs n (by omega)).2.1
   ·exact aFC f _ _ _ (Nat.le_refl _) (hs n (by omega)).2.2 x hx
theorem aIZ(p:Pt)(hz:szP p≤1048576):∀(xs:List (Way× Se)) (T:List ByteArray),(∀i,(nth T i).size≤1048576)→(∀x∈ xs,x.2.name.size≤1048576)→∀y∈ askF p T xs,y.2.2.size≤1048576∧y.2.1.name.size≤1048576
 |[],T,hT,hx,y,hy=>by simp[askF] at hy
 |x::xs,T,hT,hx,y,hy=>by
  simp only[askF,List.mem_cons] at hy
  rcases hy with rfl| hy
  ·exact⟨hT _,hx x (by simp)⟩
  ·refine aIZ p hz xs (tyS p T x) (fun i=>?_) (fun z hz=>hx z (by simp[hz])) y hy
   unfold tyS nth
   rw[List.getD_eq_getElem?_getD]
   by_cases hi:i<(T.take x.1.length).length
   ·rw[List.getElem?_append_left hi,List.getElem?_take]
    split
    ·rw[←List.getD_eq_getElem?_getD];exact hT i
    ·simp
   ·rw[List.getElem?_append_right (by omega)]
    by_cases h0:i- (T.take x.1.length).length=0
    ·rw[h0];simpa using(aEI p hz _ _).2.1
    ·rw[List.getElem?_eq_none (by simp at h0 ⊢;omega)];simp
theorem aQG(p:Pt)(hz:szP p≤1048576)(f:Nat)(ks:List Se)(hs:aEJ f ks)(x:Way× Se× ByteArray)(hx:x∈ askF p [qry] (aAU f [] ks ks.length)):x.2.2.size≤1048576∧x.2.1.name.size≤1048576:=
 aIZ p hz _ _ (fun i=>by
  rcases i with _| i
  ·simp[nth,qry,ByteArray.size]
  ·simp[nth]) (aFC f [] ks _ (Nat.le_refl _) hs) x hx
theorem aKA{base:Nat}{w:World}{v:Value}{l:List ByteArray}{k:Nat}(h:Row9 base w v l)(hk:v.ownBlock=some k):∃cs,w.heap[k]?=some (.cells cs 9 (0,0)):=by
 rcases h.1.2 with⟨rfl,-⟩| ⟨g,cap,cur,rfl,-,hh,-⟩
 ·simp[Value.ownBlock] at hk
 ·simp only[Value.ownBlock,Option.some.injEq] at hk
  subst hk
  exact⟨_,hh⟩
def aNA(w:World)(l:List ByteArray)(e:Ending)(w':World):Prop:=∃a c,e=.returned (.slice a l.length c)∧Row9 w.heap.size w' (.slice a l.length c) l∧Below w.heap.size w w'
set_option maxRecDepth 20000 in
set_option maxHeartbeats 3200000 in
theorem aG1(f:Nat)(p:Pt)(ks:List Se)(P:Nat→Prop)(B:Nat)(ka:Option Addr)(kc:Nat)(v:Value)(w:World)(h:aJO f ks P B ka w)(hP:PRep w (·<w.heap.size) p v)(hz:szP p≤1048576):
  Calls Tryz.prog 30 #[v,.slice ka ks.length kc] w fun e w'=>aNA w (aAM f p ks) e w':=by
 have hP':=hP
 obtain⟨ta,tc,rfl,-,-,-⟩:=hP
 have bX:=aA2 w (.cells #[.string p.name,.slice ta p.types.length tc] 43)
 have zX:(w.alloc (.cells #[.string p.name,.slice ta p.types.length tc] 43)).heap.size=w.heap.size+1:=by simp
 have nX:=heap_alloc_new w (.cells #[.string p.name,.slice ta p.types.length tc] 43)
 have HC:=aA0 (fun W (hW:Below w.heap.size w W)=>aGN f p ks P B ka kc _ W (h.on hW) ((hP'.under hW).sub fun b hb=>Nat.lt_of_lt_of_le hb hW.size) hz)
 obtain⟨code,hcode⟩:∃code,code=aCE (aBM f p ks):=⟨_,rfl⟩
 have HC:Hid (∀W,Below w.heap.size w W→Calls Tryz.prog 32 #[.agg #[.string p.name,.slice ta p.types.length tc],.slice ka ks.length kc] W fun e w'=>∃a n c,e=.returned (.agg #[.slice a n c,.int .i64 code])∧Below W.heap.size W w'):=aA0 fun W hW=>(HC.out W hW).mono fun e w' h=>by
  obtain⟨a,c,h1,-,h3⟩:=h
  exact⟨a,_,c,by rw[h1,hcode],h3⟩
 by_cases hc0:code=0
 case neg=>
  have HE:Hid (aAM f p ks=[]):=aA0 (by rw[aAM,←hcode,if_neg hc0])
  have hcb:(code==0)=false:=by simpa using hc0
  have hcn:(code !=0)=true:=by simpa using hc0
  clear hcode nX
  refine(callsIn_wide (n:=3)).1 ?_
  refine callsIn_of_wp_marks Tryz.func30 rfl trivial ?_ rfl
  simp only[Tryz.ntmps30,List.size_toArray,List.length_cons,List.length_nil,Nat.reduceAdd,Nat.reduceSub,Array.replicate_succ,Array.replicate_zero,List.push_toArray,List.append_toArray,List.nil_append,List.cons_append]
  gi_wp2_with (refine⟨trivial,?_⟩;gi_at_call 32;refine(callsIn_wide.2 (HC.out _ bX)).mono ?_;rintro e w1 ⟨a1,n1,c1,rfl,hb1⟩;have b01:=bX.trans (hb1.mono (by omega)))
  refine⟨.slice none 0 0,by simp[results,Tryz.results30,go_sem],?_⟩
  rw[HE.out]
  exact⟨none,0,rfl,⟨⟨rfl,Or.inl ⟨rfl,rfl⟩⟩,fun i=>by simp[nth,maxLen],by simp⟩,b01⟩
 subst hc0
 have hokk:okP p=true∧aDH f ks=true:=by
  have h0:=hcode.symm
  unfold aBM at h0
  split at h0
  ·assumption
  ·simp[aCE] at h0
 have hchk:aBM f p ks=none:=by
  have h0:=hcode.symm
  rw[aBM,if_pos hokk] at h0 ⊢
  cases hc:chkM p f [] qry ks ks.length with
  |none=>rfl
  |some x=>
   rw[hc] at h0
   exact absurd h0 (aEN p f [] qry ks ks.length x hc)
 obtain⟨XS,hXS⟩:∃XS,XS=aAU f [] ks ks.length:=⟨_,rfl⟩
 have h2w:aDG [] XS=true:=by
  have hq:askB f ks=true:=by
   have:=hokk.2
   simp only[aDH,Bool.and_eq_true] at this
   exact this.1
  have:=aJ7 f ks h.fit
  rw[hq,←hXS] at this
  cases hw:aDG [] XS
  ·rw[hw] at this;simp at this
  ·rfl
 have h5:∀x∈ XS,x.1.length≤5:=fun x hx=>(((aE0 XS []).1 h2w).1 x hx).1
 have h24:XS.length≤24:=by
  by_cases he:XS=[]
  ·rw[he];simp
  ·have:=((aE0 XS []).1 h2w).2.1 he
   simpa using this
 obtain⟨AS,hAS⟩:∃AS,AS=askF p [qry] XS:=⟨_,rfl⟩
 have hbad:aB5 p AS=none:=by
  rw[hAS,hXS,(aFP p f [] qry ks _ [qry] (Nat.le_refl _) (by simp) rfl).1]
  rw[aBM,if_pos hokk] at hchk
  exact hchk
 have HE:Hid (aAM f p ks=aBG p [] AS):=aA0 (by
  rw[aAM,←hcode,if_pos rfl,hAS,hXS]
  exact(aGA p f [] qry ks ks.length [qry] [] (Nat.le_refl _) (by simp) rfl (by rw[←hXS,←hAS];exact hbad)).symm)
 have HLEN:Hid (∀pre,pre<+:AS→(aBG p [] pre).length≤25165848):=aA0 fun pre hp=>by
  have h1:=aIV p hz pre []
  have h3:=hp.length_le
  have h4:AS.length=XS.length:=by rw[hAS];exact aN4 p XS [qry]
  have h6:pre.length*1048577≤24*1048577:=Nat.mul_le_mul_right _ (by omega)
  simp only[List.length_nil,Nat.zero_add] at h1
  omega
 have HSMA:Hid (∀x∈ AS,x.2.2.size≤1048576∧x.2.1.name.size≤1048576):=aA0 fun x hx=>by
  rw[hAS,hXS] at hx
  exact aQG p hz f ks h.small x hx
 have HAS:=aA0 (And.intro hAS hXS)
 clear hAS hXS hcode h24 hbad hchk hokk h2w
 have HXP:Hid (∀W',Below (w.heap.size+1) (w.alloc (.cells #[.string p.name,.slice ta p.types.length tc] 43)) W'→W'.cell? ⟨w.heap.size,0,none⟩=some (.string p.name)∧W'.cell? ⟨w.heap.size,1,none⟩=some (.slice ta p.types.length tc)):=aA0 fun W' hW=>by
  have hp:=(hW.block _ (by omega)).trans nX
  exact⟨(aA1 hp 0 (by simp)).1,(aA1 hp 1 (by simp)).1⟩
 clear nX
 refine(callsIn_wide (n:=3)).1 ?_
 refine callsIn_of_wp_marks Tryz.func30 rfl trivial ?_ rfl
 simp only[Tryz.ntmps30,List.size_toArray,List.length_cons,List.length_nil,Nat.reduceAdd,Nat.reduceSub,Array.replicate_succ,Array.replicate_zero,List.push_toArray,List.append_toArray,List.nil_append,List.cons_append]
 gi_wp2_with (first
  |(
   refine⟨trivial,?_⟩
   gi_at_call 32
   refine(callsIn_wide.2 (HC.out _ bX)).mono ?_
   rintro e w1 ⟨a1,n1,c1,rfl,hb1⟩
   have b01:=bX.trans (hb1.mono (by omega))
   have hb1':Below (w.heap.size+1) (w.alloc (.cells #[.string p.name,.slice ta p.types.length tc] 43)) w1:=by rw[zX] at hb1;exact hb1
   have xa:=fun o1=>(HXP.out (w1.alloc o1) (hb1'.trans ((aA2 w1 o1).mono (by have:=hb1'.size;omega)))).1
   have xb:=fun o1=>(HXP.out (w1.alloc o1) (hb1'.trans ((aA2 w1 o1).mono (by have:=hb1'.size;omega)))).2)
  |(refine⟨trivial,?_⟩;gi_at_call 64;refine(callsIn_wide.2 (aIK _ _ _ ka ks.length kc)).mono ?_;rintro e w' ⟨rfl,rfl⟩))
 obtain⟨Y,hY⟩:∃Y,Y=((w1.alloc (.cells #[.slice none 0 0] 29)).alloc (.cells #[.string p.name,.slice ta p.types.length tc] 43)).alloc (.cells #[.slice ka ks.length kc] 23):=⟨_,rfl⟩
 have zY:Y.heap.size=w1.heap.size+3:=by rw[hY];simp
 have z1:=b01.size
 have bY:Below w1.heap.size w1 Y:=by rw[hY];exact(((Below.refl _ _).alloc (Nat.le_refl _) _).alloc (by simp) _).alloc (by simp<;>omega) _
 have fY:Y.heap[w1.heap.size]?=some (.cells #[.slice none 0 0] 29 (0,0)):=by
  rw[hY,(aA2 _ _).block _ (by simp<;>omega),(aA2 _ _).block _ (by simp)]
  exact aA3 _ _ rfl
 have pY:Y.heap[w1.heap.size+1]?=some (.cells #[.string p.name,.slice ta p.types.length tc] 43 (0,0)):=by
  rw[hY,(aA2 _ _).block _ (by simp)]
  exact aA3 _ _ (by simp)
 have sY:Y.heap[w1.heap.size+1+1]?=some (.cells #[.slice ka ks.length kc] 23 (0,0)):=by
  rw[hY]
  exact aA3 _ _ (by simp)
 have bwY:=b01.trans (bY.mono b01.size)
 rw[←hY]
 clear hY HC xa xb hb1 hb1' HXP
 refine aG8 (w:=Y) rfl (by omega) (gf:=102) (lb:=#[.pointer (some ⟨w1.heap.size+1+1,0,none⟩),.pointer (some ⟨w1.heap.size+1,0,none⟩)]) rfl trivial (enters_of Tryz.func102 (by kernel_rfl) rfl)
  AS (fun pre O x ar A=>ArgA w.heap.size O p x ar A∧pre++[x]<+:AS) ?ps (fun pre O A=>∃tv,IFd p w w1.heap.size pre O tv A) ?looks ?cells (fun _=>False) ?xstill
  (fun b=>b=w1.heap.size) ?start ?seq
  (fun pre O x ar a' A=>∃(g wc:Nat) (sa:Option Addr) (sc:Nat) (na:Option Addr) (nc sx:Nat),pre++[x]<+:AS∧a'={ tmps:=#[.agg #[.string p.name,.slice ta p.types.length tc],.slice ka ks.length kc,.pointer (some ⟨w.heap.size,0,none⟩),undef,.slice none 0 0,.pointer (some ⟨w1.heap.size,0,none⟩),undef,.pointer (some ⟨sx,0,none⟩),undef,undef,.agg #[.string p.name,.slice ta p.types.length tc],.slice ka ks.length kc,.agg #[.slice a1 n1 c1,.int .i64 0],.int .i64 0,.bool false,.agg #[.string p.name,.slice ta p.types.length tc],.slice ka ks.length kc,.func (.func 102) #[] #[.pointer (some ⟨w1.heap.size+1+1,0,none⟩),.pointer (some ⟨w1.heap.size+1,0,none⟩)],.slice (some ⟨g,0,none⟩) x.1.length wc,.agg #[.string x.2.1.al,.string x.2.1.name,.bool x.2.1.one,.int .i64 x.2.1.id,.slice sa x.2.1.kids.length sc,.string x.2.2,.string (fldF p x.2.2 x.2.1.name).name,.string (fldF p x.2.2 x.2.1.name).of,.bool (fldF p x.2.2 x.2.1.name).list,.bool (fldF p x.2.2 x.2.1.name).must,.bool (fldF p x.2.2 x.2.1.name).far,.bool (fldF p x.2.2 x.2.1.name).hidden,.bool (fldF p x.2.2 x.2.1.name).shared,.slice na (fldF p x.2.2 x.2.1.name).needs.length nc,.bool (fldB p x.2.2 x.2.1.name&&!(fldF p x.2.2 x.2.1.name).hidden)],undef,undef,undef,undef,undef,undef,undef,undef,undef,undef,undef,undef,undef,undef,undef,undef,undef,undef,undef,undef,undef,undef,undef,undef],defers:=[] }∧A.heap[sx]?=some (.cells #[.string x.2.1.al,.string x.2.1.name,.bool x.2.1.one,.int .i64 x.2.1.id,.slice sa x.2.1.kids.length sc,.string x.2.2,.string (fldF p x.2.2 x.2.1.name).name,.string (fldF p x.2.2 x.2.1.name).of,.bool (fldF p x.2.2 x.2.1.name).list,.bool (fldF p x.2.2 x.2.1.name).must,.bool (fldF p x.2.2 x.2.1.name).far,.bool (fldF p x.2.2 x.2.1.name).hidden,.bool (fldF p x.2.2 x.2.1.name).shared,.slice na (fldF p x.2.2 x.2.1.name).needs.length nc,.bool (fldB p x.2.2 x.2.1.name&&!(fldF p x.2.2 x.2.1.name).hidden)] 95 (0,0))∧Strs A (·<w.heap.size) (fldF p x.2.2 x.2.1.name).needs na) ?astill ?assign ?body ?done ?stop
 case ps=>
  rintro pre O x ar A ⟨⟨g,wc,sa,sc,na,nc,rfl,-⟩,-⟩
  rfl
 case looks=>exact fun pre O=>IFd.looks p w _ _ (by omega) pre O
 case cells=>
  rintro pre O A ⟨tv,h⟩
  exact h.cells
 case xstill=>exact fun A l o o' h _ _ _=>h
 case start=>
  exact⟨.slice none 0 0,fY,⟨⟨rfl,Or.inl ⟨rfl,rfl⟩⟩,fun i=>by simp[aBG,nth,maxLen],by simp[aBG]⟩,by simp[Value.ownBlock],bwY,fun b=>by simp[Value.ownBlock]⟩
 case seq=>
  intro l J Jx W hb hJl hXs hJc hy h0
  have hbW:=bwY.trans (hb.mono bwY.size)
  have zW:=hb.size
  have:=aHT p (.string p.name) (.slice ta p.types.length tc) f ks l J Jx w.heap.size (3- 1) _ W ka kc (w1.heap.size+1+1) (w1.heap.size+1) hJl hXs hJc (fun n pre O x ar A hJ hp hA=>aEC (hy pre O x ar A hJ ⟨hA,by rw[HAS.out.1,HAS.out.2];exact hp⟩)) h.fit h.small ((h.on hbW).rep.sub fun b hb=>by have:=(h.apart b hb).1;have:=h.le;show b<_;omega) (hP'.under hbW) hbW.size h.few (by rw[←HAS.out.2];exact h5) h0 (by rintro b rfl;omega) ((hb.cell (p:=⟨w1.heap.size+1+1,0,none⟩) (by show w1.heap.size+1+1<_;omega)).trans (aA1 sY 0 (by simp)).1) ((hb.cell (p:=⟨w1.heap.size+1,0,none⟩) (by show w1.heap.size+1<_;omega)).trans (aA1 pY 0 (by simp)).1) ((hb.cell (p:=⟨w1.heap.size+1,1,none⟩) (by show w1.heap.size+1<_;omega)).trans (aA1 pY 1 (by simp)).1)
  rw[←HAS.out.2,←HAS.out.1] at this
  exact this
 case astill=>
  rintro pre O x ar a' A l o o' ⟨g,wc,sa,sc,na,nc,sx,h1,h2,h4,h6⟩ hl ho1 ho2
  exact⟨g,wc,sa,sc,na,nc,sx,h1,h2,aCG ho1 ho2 h4,(h6.only.mono fun b hb=>by
   obtain⟨-,ob,k1,k2⟩:=hb
   exact World.putObj_heap_other fun e=>by rw[e,ho1] at k1;cases k1;rw[ho2] at k2;cases k2).sub fun b hb=>hb.1⟩
 case assign=>
  rintro l pre O x ar A K ⟨⟨g,wc,sa,sc,na,nc,rfl,h3,h4,h6,h7,h8,h9,h10,hFR⟩,hp⟩ hK
  have HK:=aA0 hK
  have hst:Strs A (·<w.heap.size) (fldF p x.2.2 x.2.1.name).needs na:=by
   obtain⟨na',nc',e,hs,-⟩:=hFR
   simp only[aggF,Value.agg.injEq,Array.mk.injEq,List.cons.injEq,Value.slice.injEq,and_true,true_and] at e
   obtain⟨rfl,-⟩:=e
   exact hs
  have hz2:w.heap.size≤A.heap.size∨(fldF p x.2.2 x.2.1.name).needs=[]:=by
   by_cases he:(fldF p x.2.2 x.2.1.name).needs=[]
   ·exact Or.inr he
   ·exact Or.inl (Nat.le_trans h6.1 (Nat.le_of_lt h7))
  clear hK hFR
  unfold aHO
  gi_wp2
  refine HK.out _ _ (aA2 A _) ⟨g,wc,sa,sc,na,nc,A.heap.size,hp,rfl,aA3 _ _ rfl,?_⟩
  exact hst.mono fun b hb=>(aA2 A _).block b (by have:b<w.heap.size:=hb;have:=Nat.le_trans h6.1 (Nat.le_of_lt h7);omega)
 case done=>
  rintro D O W hD ⟨tv,h2⟩ hK
  obtain⟨a2,c2,rfl,-⟩:=h2.row.strs
  have HH:=aA0 h2
  obtain⟨r0,f0⟩:=aA1 h2.box 0 (by simp)
  simp only[List.getElem_toArray,List.getElem_cons_zero] at r0
  clear h2
  gi_wp2
  refine⟨by simp,.inl ⟨_,_,rfl,run_takeDeferred hK,.slice a2 (aBG p [] AS).length c2,by simp[results,Tryz.results30,go_sem],?_⟩⟩
  rw[HE.out]
  refine⟨a2,c2,rfl,HH.out.row.keep fun b hb=>?_,HH.out.bel.trans (aBZ _ _ (by omega))⟩
  obtain⟨cs,hcs⟩:=aKA HH.out.row hb
  exact World.putObj_heap_other fun e=>by rw[e,hK] at hcs;cases hcs
 case stop=>
  rintro D W hD h1 hK
  exact h1.elim
 case body=>
  rintro l pre O x ar a' A ⟨tv,h2⟩ ⟨g,wc,sa,sc,na,nc,sx,hp,rfl,h9,hst⟩
  clear zY
  obtain⟨hsz1,hsz2⟩:=HSMA.out x (hp.subset (by simp))
  have hsm:=aEI p hz x.2.2 x.2.1.name
  obtain⟨L,hL⟩:∃L,L=aBG p [] pre:=⟨_,rfl⟩
  have hlen:=HLEN.out pre (List.IsPrefix.trans ⟨[x],rfl⟩ hp)
  have hrow:=h2.row
  rw[←hL] at hrow hlen
  obtain⟨la,lc,rfl,-⟩:=hrow.strs
  have HNX:Hid (aBG p [] (pre++[x])=aC1 (addT L (fldT x.2.2 x.2.1.name)) ((fldF p x.2.2 x.2.1.name).needs.map (fldT x.2.2))):=aA0 (by
   rw[aIP,←hL]
   rfl)
  generalize fldF p x.2.2 x.2.1.name=gF at*
  obtain⟨hs0,hs1,hs2,hs3⟩:=hsm
  have HS3:=aA0 hs3
  have lfb:=(Array.getElem?_eq_some_iff.1 h2.box).1
  have lsx:=(Array.getElem?_eq_some_iff.1 h9).1
  have hnb:=h2.nb
  have hsx1:sx≠w1.heap.size:=fun e=>by rw[e,h2.box] at h9;simp at h9
  have hsx2:(Value.slice la L.length lc).ownBlock≠some sx:=fun e=>by
   obtain⟨cs,hcs⟩:=aKA hrow e
   rw[h9] at hcs
   simp at hcs
  have hwA:=h2.bel.size
  have HG0:=aA0 (aFE.start h2.box)
  have HS:Hid (∀W' v',aFE w1.heap.size A (.slice la L.length lc) W' v'→(W'.cell? ⟨sx,1,none⟩=some (.string x.2.1.name)∧W'.cell? ⟨sx,5,none⟩=some (.string x.2.2))∧W'.cell? ⟨sx,13,none⟩=some (.slice na gF.needs.length nc)∧Strs W' (·<w.heap.size) gF.needs na∧W'.cell? ⟨w1.heap.size,0,none⟩=some v'∧W'.frozen? ⟨w1.heap.size,0,none⟩=false):=aA0 fun W' v' hW=>by
   have hsb:=(hW.block sx lsx hsx1 hsx2).trans h9
   refine⟨⟨(aA1 hsb 1 (by simp)).1,(aA1 hsb 5 (by simp)).1⟩,(aA1 hsb 13 (by simp)).1,hst.mono fun b hb=>hW.block b ?_ ?_ ?_,(aA1 hW.box 0 (by simp)).1,(aA1 hW.box 0 (by simp)).2⟩
   ·have:b<w.heap.size:=hb;omega
   ·have:b<w.heap.size:=hb;omega
   ·intro e;have:=(hrow.1.lt b e).1;have:b<w.heap.size:=hb;omega
  have HS2:Hid (∀W u W' v',aFE w1.heap.size A (.slice la L.length lc) W u→Grew W u W' v'→(W'.cell? ⟨sx,1,none⟩=some (.string x.2.1.name)∧W'.cell? ⟨sx,5,none⟩=some (.string x.2.2))∧W'.cell? ⟨w1.heap.size,0,none⟩=some u∧W'.frozen? ⟨w1.heap.size,0,none⟩=false):=aA0 fun W u W' v' hW hG=>by
   have hz:=hW.size
   have hux:u.ownBlock≠some sx:=fun e=>by
    rcases hW.lies with e2| ⟨g,e2,hg⟩
    ·exact hsx2 (e2▸e)
    ·rw[e2] at e;simp only[Option.some.injEq] at e;omega
   have hsb:=(hG.block sx (by omega) hux).trans ((hW.block sx lsx hsx1 hsx2).trans h9)
   have hfb:=(hG.block w1.heap.size (by omega) (hW.nb hnb lfb)).trans hW.box
   exact⟨⟨(aA1 hsb 1 (by simp)).1,(aA1 hsb 5 (by simp)).1⟩,(aA1 hfb 0 (by simp)).1,(aA1 hfb 0 (by simp)).2⟩
  have HFT:=aA0 (fun W=>aKT x.2.2 x.2.1.name W (by omega))
  obtain⟨L1,HL1⟩:∃L1,Hid (addT L (fldT x.2.2 x.2.1.name)=L1):=⟨_,aA0 rfl⟩
  have HAD:Hid (∀W,Below A.heap.size A W→Calls Tryz.prog 65 #[(.slice la L.length lc),.string (fldT x.2.2 x.2.1.name)] W fun e w'=>aI8 w.heap.size W (.slice la L.length lc) L1 e w'):=aA0 fun W hW=>by
   have h1:=aJL L (fldT x.2.2 x.2.1.name) W w.heap.size (.slice la L.length lc) (hrow.keep fun k hk=>hW.block k (hrow.1.lt k hk).2) (by rw[aGQ];unfold maxLen;omega) (by omega) (by have:=hW.size;omega)
   rw[HL1.out] at h1
   exact h1
  rw[HL1.out] at HNX
  have hl1:L1.length≤L.length+1:=by rw[←HL1.out];exact aLD _ _
  have HH:=aA0 h2
  clear h2 hrow hp hL hst h9 hs3 HL1
  gi_wp2
  refine Code.wpIn_mono (Q:=fun e a3 w3=>e=.normal∧∃(a2:Option Addr) (c2:Nat) (u20 u21 u22 u23 u24 u25 u26 u27:Value),a3={ tmps:=#[.agg #[.string p.name,.slice ta p.types.length tc],.slice ka ks.length kc,.pointer (some ⟨w.heap.size,0,none⟩),undef,.slice none 0 0,.pointer (some ⟨w1.heap.size,0,none⟩),undef,.pointer (some ⟨sx,0,none⟩),undef,undef,.agg #[.string p.name,.slice ta p.types.length tc],.slice ka ks.length kc,.agg #[.slice a1 n1 c1,.int .i64 0],.int .i64 0,.bool false,.agg #[.string p.name,.slice ta p.types.length tc],.slice ka ks.length kc,.func (.func 102) #[] #[.pointer (some ⟨w1.heap.size+1+1,0,none⟩),.pointer (some ⟨w1.heap.size+1,0,none⟩)],.slice (some ⟨g,0,none⟩) x.1.length wc,.agg #[.string x.2.1.al,.string x.2.1.name,.bool x.2.1.one,.int .i64 x.2.1.id,.slice sa x.2.1.kids.length sc,.string x.2.2,.string gF.name,.string gF.of,.bool gF.list,.bool gF.must,.bool gF.far,.bool gF.hidden,.bool gF.shared,.slice na gF.needs.length nc,.bool (fldB p x.2.2 x.2.1.name&&!gF.hidden)],u20,u21,u22,u23,u24,u25,u26,u27,undef,undef,undef,undef,undef,undef,undef,undef,undef,undef,undef,undef,undef,undef,undef,undef],defers:=[] }∧Hid (aFE w1.heap.size A (.slice la L.length lc) w3 (.slice a2 L1.length c2)∧Row9 w.heap.size w3 (.slice a2 L1.length c2) L1)) ?imp6 ?reg6
  case reg6=>
   refine aE6 (fun w'=>w'.cell? ⟨sx,1,none⟩=some (.string x.2.1.name)∧w'.cell? ⟨sx,5,none⟩=some (.string x.2.2)) (by kernel_rfl) (by rintro⟨a,w,h,-⟩;cases h) (by kernel_rfl) (HS.out _ _ (HG0.out.below (Below.refl _ _).drew lfb)).1 (fun hHeld=>?_)
   have bX:Below A.heap.size A A.drew:=(Below.refl _ _).drew
   generalize A.drew=wD at*
   have gX:=HG0.out.below bX lfb
   obtain⟨-,-,-,t0,tf⟩:=HS.out wD _ gX
   refine tkH 1 hHeld ?_ (hQ:=(fun _ _ _ h=>by cases h.1))
   refine tkH 2 hHeld ?_ (hQ:=(fun _ _ _ h=>by cases h.1))
   refine tkH 3 hHeld ?_ (hQ:=(fun _ _ _ h=>by cases h.1))
   refine tkH 4 hHeld ?_ (hQ:=(fun _ _ _ h=>by cases h.1))
   refine tkH 5 hHeld ?_ (hQ:=(fun _ _ _ h=>by cases h.1))
   refine rdyH [0,6] ?_
   refine rcH (fun K hK=>?_) ?_
   ·go_simp
    refine hK.out _ _ (HS.out _ _ gX).1 (fun hHeld=>?_)
    clear hK K
    try simp only[Act.put,List.setIfInBounds_toArray,List.set_cons_zero,List.set_cons_succ]
    refine rdyH [6] ?_
    refine rcH (fun K hK=>?_) AllReadyH.nil
    go_simp
    refine(HFT.out wD).mono ?_
    rintro e w' ⟨rfl,rfl⟩
    refine hK.out _ _ (HS.out _ _ gX).1 (fun hHeld=>?_)
    clear hK K
    try simp only[Act.put,List.setIfInBounds_toArray,List.set_cons_zero,List.set_cons_succ]
    refine rdyH [7] ?_
    refine rcH (fun K hK=>?_) AllReadyH.nil
    go_simp
    refine(HAD.out wD bX).mono ?_
    rintro e wC ⟨a2,c2,rfl,hRC,hGC⟩
    obtain⟨qS,q0,qf⟩:=HS2.out _ _ _ _ gX hGC
    refine hK.out _ _ qS (fun hHeld=>?_)
    clear hK K
    try simp only[Act.put,List.setIfInBounds_toArray,List.set_cons_zero,List.set_cons_succ]
    refine rdyH [8] ?_
    refine rcH (fun K hK=>?_) AllReadyH.nil
    go_simp
    refine hK.out _ _ (HS.out _ _ (gX.step hGC (gX.nb hnb lfb) lfb)).1 (fun hHeld=>?_)
    clear hK K
    try simp only[Act.put,List.setIfInBounds_toArray,List.set_cons_zero,List.set_cons_succ]
    refine wpAnyH_done (by kernel_rfl) ?_ _
    have gN:=gX.step hGC (gX.nb hnb lfb) lfb
    refine⟨rfl,a2,c2,_,_,_,_,_,_,_,_,rfl,aA0 ⟨gN,hRC.keep fun b hb=>Below.heap_setCell _ _ _ _ fun e=>gN.nb hnb lfb (by rw[←show b=w1.heap.size from e];exact hb)⟩⟩
   refine rcH (fun K hK=>?_) AllReadyH.nil
   go_simp
   refine(HFT.out wD).mono ?_
   rintro e w' ⟨rfl,rfl⟩
   refine hK.out _ _ (HS.out _ _ gX).1 (fun hHeld=>?_)
   clear hK K
   try simp only[Act.put,List.setIfInBounds_toArray,List.set_cons_zero,List.set_cons_succ]
   refine rdyH [0] ?_
   refine rcH (fun K hK=>?_) AllReadyH.nil
   go_simp
   refine hK.out _ _ (HS.out _ _ gX).1 (fun hHeld=>?_)
   clear hK K
   try simp only[Act.put,List.setIfInBounds_toArray,List.set_cons_zero,List.set_cons_succ]
   refine rdyH [7] ?_
   refine rcH (fun K hK=>?_) AllReadyH.nil
   go_simp
   refine(HAD.out wD bX).mono ?_
   rintro e wC ⟨a2,c2,rfl,hRC,hGC⟩
   obtain⟨qS,q0,qf⟩:=HS2.out _ _ _ _ gX hGC
   refine hK.out _ _ qS (fun hHeld=>?_)
   clear hK K
   try simp only[Act.put,List.setIfInBounds_toArray,List.set_cons_zero,List.set_cons_succ]
   refine rdyH [8] ?_
   refine rcH (fun K hK=>?_) AllReadyH.nil
   go_simp
   refine hK.out _ _ (HS.out _ _ (gX.step hGC (gX.nb hnb lfb) lfb)).1 (fun hHeld=>?_)
   clear hK K
   try simp only[Act.put,List.setIfInBounds_toArray,List.set_cons_zero,List.set_cons_succ]
   refine wpAnyH_done (by kernel_rfl) ?_ _
   have gN:=gX.step hGC (gX.nb hnb lfb) lfb
   refine⟨rfl,a2,c2,_,_,_,_,_,_,_,_,rfl,aA0 ⟨gN,hRC.keep fun b hb=>Below.heap_setCell _ _ _ _ fun e=>gN.nb hnb lfb (by rw[←show b=w1.heap.size from e];exact hb)⟩⟩
  rintro e a3 w3 ⟨rfl,a2,c2,u20,u21,u22,u23,u24,u25,u26,u27,rfl,H6⟩
  obtain⟨-,x13,-,-,-⟩:=HS.out w3 _ H6.out.1
  gi_wp2
  clear x13
  gi_loopw [32] (fun i wr=>∃(j:Nat) (L2:List ByteArray) (a4:Option Addr) (c4:Nat),j≤gF.needs.length∧i=.int .i64 j∧Hid (aC1 L1 ((gF.needs.take j).map (fldT x.2.2))=L2)∧Hid (aFE w1.heap.size A (.slice la L.length lc) wr (.slice a4 L2.length c4)∧Row9 w.heap.size wr (.slice a4 L2.length c4) L2)) (fun i _=>gF.needs.length- (intOf i).toNat)
  case atStart=>exact⟨0,L1,a2,c2,Nat.zero_le _,rfl,aA0 (by simp[aC1]),H6⟩
  case round=>
   obtain⟨j,L2,a4,c4,hj,rfl,HJ,GW⟩:=hrel
   obtain⟨w4,rfl⟩:∃x,x=wr:=⟨wr,rfl⟩
   by_cases hjl:j<gF.needs.length
   ·obtain⟨-,-,hst4,-,-⟩:=HS.out w4 _ GW.out.1
    obtain⟨nb,no,rfl,hnB,hnc⟩:=hst4.1 (by intro e;rw[e] at hjl;simp at hjl)
    have hji:(j:Int)<(gF.needs.length:Int):=by omega
    have d0:=hnc j hjl
    clear hst4 hnc
    have hl2:L2.length≤L1.length+gF.needs.length:=by
     have h1:=aDR ((gF.needs.take j).map (fldT x.2.2)) L1
     rw[HJ.out] at h1
     simp only[List.length_map,List.length_take] at h1
     omega
    have hsj:=HS3.out j
    have HJN:Hid (aC1 L1 ((gF.needs.take (j+1)).map (fldT x.2.2))=addT L2 (fldT x.2.2 (nth gF.needs j))):=aA0 (by rw[←HJ.out];exact aJG L1 gF.needs x.2.2 j hjl)
    generalize nth gF.needs j=nd at*
    have HFT2:=aA0 (fun W=>aKT x.2.2 nd W (by omega))
    obtain⟨L3,HL3⟩:∃L3,Hid (addT L2 (fldT x.2.2 nd)=L3):=⟨_,aA0 rfl⟩
    have HAD2:Hid (∀W,Below w4.heap.size w4 W→Calls Tryz.prog 65 #[.slice a4 L2.length c4,.string (fldT x.2.2 nd)] W fun e w'=>aI8 w.heap.size W (.slice a4 L2.length c4) L3 e w'):=aA0 fun W hW=>by
     have h1:=aJL L2 (fldT x.2.2 nd) W w.heap.size (.slice a4 L2.length c4) (GW.out.2.keep fun k hk=>hW.block k (GW.out.2.1.lt k hk).2) (by rw[aGQ];unfold maxLen;omega) (by omega) (by have:=hW.size;have:=GW.out.1.size;omega)
     rw[HL3.out] at h1
     exact h1
    rw[HL3.out] at HJN
    gi_wp2
    refine Code.wpIn_mono (Q:=fun e a5 w5=>e=.normal∧∃(a6:Option Addr) (c6:Nat) (u36 u37 u38 u39 u40 u41:Value),a5={ tmps:=#[.agg #[.string p.name,.slice ta p.types.length tc],.slice ka ks.length kc,.pointer (some ⟨w.heap.size,0,none⟩),undef,.slice none 0 0,.pointer (some ⟨w1.heap.size,0,none⟩),undef,.pointer (some ⟨sx,0,none⟩),undef,.string nd,.agg #[.string p.name,.slice ta p.types.length tc],.slice ka ks.length kc,.agg #[.slice a1 n1 c1,.int .i64 0],.int .i64 0,.bool false,.agg #[.string p.name,.slice ta p.types.length tc],.slice ka ks.length kc,.func (.func 102) #[] #[.pointer (some ⟨w1.heap.size+1+1,0,none⟩),.pointer (some ⟨w1.heap.size+1,0,none⟩)],.slice (some ⟨g,0,none⟩) x.1.length wc,.agg #[.string x.2.1.al,.string x.2.1.name,.bool x.2.1.one,.int .i64 x.2.1.id,.slice sa x.2.1.kids.length sc,.string x.2.2,.string gF.name,.string gF.of,.bool gF.list,.bool gF.must,.bool gF.far,.bool gF.hidden,.bool gF.shared,.slice (some ⟨nb,no,none⟩) gF.needs.length nc,.bool (fldB p x.2.2 x.2.1.name&&!gF.hidden)],u20,u21,u22,u23,u24,u25,u26,u27,.pointer (some ⟨sx,6,none⟩),.pointer (some ⟨sx,13,none⟩),.slice (some ⟨nb,no,none⟩) gF.needs.length nc,.int .i64 (gF.needs.length:Int),.int .i64 (j:Int),.bool true,.pointer (some ⟨nb,no+j,none⟩),.string nd,u36,u37,u38,u39,u40,u41,u42,undef],defers:=[] }∧Hid (aFE w1.heap.size A (.slice la L.length lc) w5 (.slice a6 L3.length c6)∧Row9 w.heap.size w5 (.slice a6 L3.length c6) L3)) ?imp10 ?reg10
    case reg10=>
     refine aE6 (fun w'=>w'.cell? ⟨sx,1,none⟩=some (.string x.2.1.name)∧w'.cell? ⟨sx,5,none⟩=some (.string x.2.2)) (by kernel_rfl) (by rintro⟨a,w,h,-⟩;cases h) (by kernel_rfl) (HS.out _ _ (GW.out.1.below (Below.refl _ _).drew lfb)).1 (fun hHeld=>?_)
     have bX:Below w4.heap.size w4 w4.drew:=(Below.refl _ _).drew
     generalize w4.drew=wD at*
     have gX:=GW.out.1.below bX lfb
     obtain⟨-,-,-,t0,tf⟩:=HS.out wD _ gX
     refine tkH 1 hHeld ?_ (hQ:=(fun _ _ _ h=>by cases h.1))
     refine tkH 2 hHeld ?_ (hQ:=(fun _ _ _ h=>by cases h.1))
     refine tkH 3 hHeld ?_ (hQ:=(fun _ _ _ h=>by cases h.1))
     refine rdyH [0,4] ?_
     refine rcH (fun K hK=>?_) ?_
     ·go_simp
      refine hK.out _ _ (HS.out _ _ gX).1 (fun hHeld=>?_)
      clear hK K
      try simp only[Act.put,List.setIfInBounds_toArray,List.set_cons_zero,List.set_cons_succ]
      refine rdyH [4] ?_
      refine rcH (fun K hK=>?_) AllReadyH.nil
      go_simp
      refine(HFT2.out wD).mono ?_
      rintro e w' ⟨rfl,rfl⟩
      refine hK.out _ _ (HS.out _ _ gX).1 (fun hHeld=>?_)
      clear hK K
      try simp only[Act.put,List.setIfInBounds_toArray,List.set_cons_zero,List.set_cons_succ]
      refine rdyH [5] ?_
      refine rcH (fun K hK=>?_) AllReadyH.nil
      go_simp
      refine(HAD2.out wD bX).mono ?_
      rintro e wC ⟨a6,c6,rfl,hRC,hGC⟩
      obtain⟨qS,q0,qf⟩:=HS2.out _ _ _ _ gX hGC
      refine hK.out _ _ qS (fun hHeld=>?_)
      clear hK K
      try simp only[Act.put,List.setIfInBounds_toArray,List.set_cons_zero,List.set_cons_succ]
      refine rdyH [6] ?_
      refine rcH (fun K hK=>?_) AllReadyH.nil
      go_simp
      refine hK.out _ _ (HS.out _ _ (gX.step hGC (gX.nb hnb lfb) lfb)).1 (fun hHeld=>?_)
      clear hK K
      try simp only[Act.put,List.setIfInBounds_toArray,List.set_cons_zero,List.set_cons_succ]
      refine wpAnyH_done (by kernel_rfl) ?_ _
      have gN:=gX.step hGC (gX.nb hnb lfb) lfb
      refine⟨rfl,a6,c6,_,_,_,_,_,_,rfl,aA0 ⟨gN,hRC.keep fun b hb=>Below.heap_setCell _ _ _ _ fun e=>gN.nb hnb lfb (by rw[←show b=w1.heap.size from e];exact hb)⟩⟩
     refine rcH (fun K hK=>?_) AllReadyH.nil
     go_simp
     refine(HFT2.out wD).mono ?_
     rintro e w' ⟨rfl,rfl⟩
     refine hK.out _ _ (HS.out _ _ gX).1 (fun hHeld=>?_)
     clear hK K
     try simp only[Act.put,List.setIfInBounds_toArray,List.set_cons_zero,List.set_cons_succ]
     refine rdyH [0] ?_
     refine rcH (fun K hK=>?_) AllReadyH.nil
     go_simp
     refine hK.out _ _ (HS.out _ _ gX).1 (fun hHeld=>?_)
     clear hK K
     try simp only[Act.put,List.setIfInBounds_toArray,List.set_cons_zero,List.set_cons_succ]
     refine rdyH [5] ?_
     refine rcH (fun K hK=>?_) AllReadyH.nil
     go_simp
     refine(HAD2.out wD bX).mono ?_
     rintro e wC ⟨a6,c6,rfl,hRC,hGC⟩
     obtain⟨qS,q0,qf⟩:=HS2.out _ _ _ _ gX hGC
     refine hK.out _ _ qS (fun hHeld=>?_)
     clear hK K
     try simp only[Act.put,List.setIfInBounds_toArray,List.set_cons_zero,List.set_cons_succ]
     refine rdyH [6] ?_
     refine rcH (fun K hK=>?_) AllReadyH.nil
     go_simp
     refine hK.out _ _ (HS.out _ _ (gX.step hGC (gX.nb hnb lfb) lfb)).1 (fun hHeld=>?_)
     clear hK K
     try simp only[Act.put,List.setIfInBounds_toArray,List.set_cons_zero,List.set_cons_succ]
     refine wpAnyH_done (by kernel_rfl) ?_ _
     have gN:=gX.step hGC (gX.nb hnb lfb) lfb
     refine⟨rfl,a6,c6,_,_,_,_,_,_,rfl,aA0 ⟨gN,hRC.keep fun b hb=>Below.heap_setCell _ _ _ _ fun e=>gN.nb hnb lfb (by rw[←show b=w1.heap.size from e];exact hb)⟩⟩
    rintro e a5 w5 ⟨rfl,a6,c6,v36,v37,v38,v39,v40,v41,rfl,H10⟩
    gi_wp2
    go_roundw
    case measure=>simp[intOf];omega
    case rel=>exact⟨j+1,L3,a6,c6,by omega,by go_num,HJN,H10⟩
   ·have ej:j=gF.needs.length:=by omega
    subst ej
    have HT:=aA0 (HH.out.turn (x:=x) (by omega) GW.out.1 (by rw[HNX.out,←List.take_length (l:=gF.needs),HJ.out];exact GW.out.2))
    gi_wp2
    exact⟨HT.out.2.from _,Or.inl ⟨rfl,HT.out.1⟩⟩
end Go.Proofs.YtokmgbidmnanpaaGreatDoor
