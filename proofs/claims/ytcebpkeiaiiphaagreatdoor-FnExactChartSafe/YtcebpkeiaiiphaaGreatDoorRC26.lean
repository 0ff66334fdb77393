import Derived.Test.YtcebpkeiaiiphaaGreatDoorRC25
import Derived.Test.YtcebpkeiaiiphaaGreatDoorRC24
import Derived.Test.YtcebpkeiaiiphaaGreatDoorRC19
set_option linter.unusedSimpArgs false
set_option linter.unusedVariables false
namespace Go.Proofs.YtcebpkeiaiiphaaGreatDoor
open Go.RowKit Go.Maps
theorem aOZ(p:Pt):∀n k i,k<=i->i<k+n->aAG p i≠0->aG0 p k n<=i
 |0,k,i,h1,h2,h3=>by omega
 |n+1,k,i,h1,h2,h3=>by
  rw[aG0];by_cases e:aAG p k=0
  ·rw[if_pos e];have:k≠i:=fun h=>h3 (h▸e);exact aOZ p n (k+1) i (by omega) (by omega) h3
  ·rw[if_neg e];exact h1
theorem aEI{p:Pt}(h:okP p=true){i:Nat}(hi:i<p.types.length):aAG p i=0:=by
 by_cases e:aAG p i=0
 ·exact e
 ·have:=aOZ p p.types.length 0 i (Nat.zero_le _) (by omega) e
  have h4:¬badT p<p.types.length:=fun hc=>by simp[okP,hc] at h
  unfold badT at h4;omega
theorem aEB{p:Pt}(h:okP p=true):0<p.types.length∧p.types.length<=5:=by
 simp[okP,aB5] at h;omega
theorem aCI{p:Pt}{i:Nat}(h:aAG p i=0):0<(tth p.types i).fields.length∧(tth p.types i).fields.length<=8∧aCH p.types i (tth p.types i)=false:=by
 unfold aAG at h;by_cases a:aAO (tth p.types i)=false
 ·rw[if_pos a] at h;omega
 rw[if_neg a] at h;by_cases b:aCH p.types i (tth p.types i)=true
 ·rw[if_pos b] at h;omega
 simp[aAO] at a;exact⟨by omega,by omega,by simpa using b⟩
theorem aF7{q:Nat->Bool}{n k:Nat}(hk:k<n)(hq:q k=true):0<=aA9 q n:=by
 rcases aA8 q n with⟨h,ha⟩| ⟨j,h,hj,hqj,ha⟩
 ·rw[ha k hk] at hq;cases hq
 ·omega
theorem aU3(a:List T)(t:T):tth (a++[t]) a.length=t:=by simp[tth,List.getD_eq_getElem?_getD]
end Go.Proofs.YtcebpkeiaiiphaaGreatDoor
namespace Go.Proofs.YtcebpkeiaiiphaaGreatDoor
open Go.RowKit
theorem aJT{a b:ByteArray}(h:a.toList=b.toList):a=b:=by
 rw[ByteArray.toList_eq,ByteArray.toList_eq] at h;cases a;cases b;simp only[ByteArray.mk.injEq];exact Array.toList_inj.1 h
def ownO(ps:List Pt)(nm n:ByteArray):O:=⟨nm,n,(aAW ps nm n).map fun(k:Nat)=>(k:Int)⟩
def ownF(ps:List Pt)(t:T):Nat->List O
 |0=>[]
 |k+1=>ownF ps t k++[ownO ps t.name (fth t.fields k).name]
def ownT(ps:List Pt)(A:Pt):Nat->List O
 |0=>[]
 |i+1=>ownT ps A i++ownF ps (tth A.types i) (tth A.types i).fields.length
theorem aID(ps:List Pt)(t:T):∀k,(ownF ps t k).length=k
 |0=>rfl
 |k+1=>by rw[ownF,List.length_append,aID ps t k];rfl
theorem aLO(ps:List Pt)(A:Pt):∀i,(ownT ps A i).length<=fcT A i
 |0=>Nat.le_refl _
 |i+1=>by
  have:=aLO ps A i;rw[ownT,List.length_append,aID,fcT];omega
theorem aR3(ps:List Pt)(out:List T)(t:T):(tth (aD5 ps out t) (atT out t)).name=t.name:=by
 unfold aD5 atT;by_cases e:0<=tyIx out t.name
 ·rw[if_pos e,if_pos e];have hx:tyIx out t.name=aA9 (fun i=>(tth out i).name.toList==t.name.toList) out.length:=rfl;rcases aA8 (fun i=>(tth out i).name.toList==t.name.toList) out.length with⟨h2,-⟩| ⟨g,h2,hg,hq,-⟩
  ·rw[hx,h2] at e;omega
  ·rw[hx,h2,Int.toNat_natCast];exact aJT (by simpa using hq)
 ·rw[if_neg e,if_neg e,aU3]
theorem aST(ps:List Pt)(out:List T)(t:T)(n:Nat):(tth (midT ps out t n) (atT out t)).name=t.name:=by
 rw[aO2,(aPS _ _ _).1];exact aR3 ps out t
theorem aRI{p:Pt}(h:okP p=true){i:Nat}(hi:i<p.types.length):aAR p (tth p.types i).name=(i:Int):=by
 have hx:aAR p (tth p.types i).name=aA9 (fun k=>(tth p.types k).name.toList==(tth p.types i).name.toList) p.types.length:=rfl;rcases aA8 (fun k=>(tth p.types k).name.toList==(tth p.types i).name.toList) p.types.length with⟨h2,ha⟩| ⟨g,h2,hg,hq,ha⟩
 ·have:=ha i hi;simp at this
 ·rw[hx,h2];by_cases e:g=i
  ·rw[e]
  ·exfalso
   have hgi:g<i:=by
    rcases Nat.lt_or_ge g i with h| h
    ·exact h
    ·have:=ha i (by omega);simp at this
   have h3:=(aCI (aEI h hi)).2.2;simp only[aCH,Bool.or_eq_false_iff] at h3;have h4:=aF7 (q:=fun k=>(tth p.types k).name.toList==(tth p.types i).name.toList) hgi hq;simp at h3;omega
theorem aHH(ps:List Pt)(h4:ps.length<=4)(h:∀i,i<ps.length->okP (pth ps i)=true):szP (allM ps)<=1048576:=by
 have hM:∀j,j<ps.length->szP (pth ps j)<=1500:=fun j hj=>(aKE _ (h j hj)).1;have h1:=aU7 ps 1500 1500 5 (aU9 ps 1500 hM) hM (fun j hj=>(aKE _ (h j hj)).2);have h2:ps.length*(1500+5*(1500+1))<=4*(1500+5*(1500+1)):=Nat.mul_le_mul_right _ h4;omega
theorem aP7(p:Pt)(k:Nat):fcT p k<=aB1 p.types k+k:=by
 induction k with
 |zero=>exact Nat.zero_le _
 |succ k ih=>
  rw[fcT,aB8];have h4:szT (tth p.types k)=(tth p.types k).name.size+(tth p.types k).key.size+((tth p.types k).fields.length+aBE (tth p.types k).fields (tth p.types k).fields.length):=rfl;omega
theorem aUX(ps:List Pt)(M i:Nat)(hM:∀j,j<i->szP (pth ps j)<=M):fcP ps i<=i*M:=by
 induction i with
 |zero=>exact Nat.zero_le _
 |succ i ih=>
  rw[fcP,Nat.succ_mul];have h1:=ih fun j hj=>hM j (by omega)
  have h2:=aP7 (pth ps i) (pth ps i).types.length;have h3:=hM i (by omega)
  have h4:szP (pth ps i)=(pth ps i).name.size+((pth ps i).types.length+aB1 (pth ps i).types (pth ps i).types.length):=rfl;omega
theorem aVH(ps:List Pt)(h4:ps.length<=4)(hz:∀i,i<ps.length->szP (pth ps i)<=1048576):fcP ps ps.length<=100000000:=by
 have h1:=aUX ps 1048576 ps.length hz;have h2:ps.length*1048576<=4*1048576:=Nat.mul_le_mul_right _ h4;omega
end Go.Proofs.YtcebpkeiaiiphaaGreatDoor
namespace Go.Proofs.YtcebpkeiaiiphaaGreatDoor
open Go.RowKit Go.Maps
theorem aS0(t:T)(f:F)(fa na:Option Addr)(fc nc:Nat)(w:World)(P Q:Nat->Prop)(hT:TRep w P t (.agg #[.string t.name,.string t.key,.slice fa t.fields.length fc]))(hF:FRep w Q f (fval f na nc))(hP:∀b,P b->b<w.heap.size)(hQ:∀b,Q b->b<w.heap.size)(hl:t.fields.length<=1000000000)(hl2:f.needs.length<=1000000000):
  Calls Tryz.prog 71 #[.agg #[.string t.name,.string t.key,.slice fa t.fields.length fc],fval f na nc] w fun e w'=>∃fa' fc',e=.returned (.agg #[.string t.name,.string t.key,.slice fa' (putF t f).fields.length fc'])∧TRep w' (fun b=>P b∨Q b∨(w.heap.size<=b∧b<w'.heap.size)) (putF t f) (.agg #[.string t.name,.string t.key,.slice fa' (putF t f).fields.length fc'])∧Below w.heap.size w w':=by
 have hx:aAB t f.name=aA9 (fun i=>(fth t.fields i).name.toList==f.name.toList) t.fields.length:=rfl;rcases aA8 (fun i=>(fth t.fields i).name.toList==f.name.toList) t.fields.length with⟨h,-⟩| ⟨g,h,hg,-,-⟩
 ·exact aQP t f fa na fc nc w P Q hT hF hP hQ hl hl2 (hx.trans h)
 ·exact aRR t f fa na fc nc w P Q hT hF hP hQ hl hl2 g (hx.trans h) hg
theorem aCK.partP{w:World}{B:Nat}{P:Nat->Prop}{ts:List T}{v:Value}(h:aCK w B P ts v)(hl:ts.length<=1000000000):PRep w (fun b=>P b∨(B<=b∧b<w.heap.size)) ⟨⟨#[97]⟩,ts⟩ (.agg #[.string ⟨#[97]⟩,v]):=by
 obtain⟨C,h1,h2⟩:=h;have hr:∀i,i<ts.length->TRep w (fun b=>P b∨(B<=b∧b<w.heap.size)) (tth ts i) (.agg #[C i 0,C i 1,C i 2]):=fun i hi=>(h2 i hi).sub fun b hq=>hq.imp id fun x=>⟨x.1,x.2.1⟩;have hA:∃ta tc,v=.slice ta ts.length tc∧ts.length<=tc∧Arr w (fun b=>P b∨(B<=b∧b<w.heap.size)) 3 ts.length ta C:=by
  obtain⟨hz,⟨rfl,h0⟩| ⟨g,cap,cur,rfl,hb,hg,hnc,hrest⟩⟩:=h1
  ·have hn:ts.length=0:=by simpa using h0
   rw[hn];exact⟨none,0,rfl,Nat.le_refl _,fun h=>absurd h (Nat.lt_irrefl _)⟩
  ·refine⟨_,_,rfl,hnc,fun _=>⟨g,0,rfl,?_,fun i hi j hj=>?_⟩⟩
   ·exact Or.inr (World.ownsRow.lt (w:=w) (base:=B) (e:=96) (size:=3) (n:=ts.length) (xs:=aDG C ts.length) ⟨hz,Or.inr ⟨g,cap,cur,rfl,hb,hg,hnc,hrest⟩⟩ g rfl)
   ·rw[Nat.zero_add,World.ownsRow.cellAt (w:=w) (base:=B) (e:=96) (size:=3) (n:=ts.length) (xs:=aDG C ts.length) ⟨hz,Or.inr ⟨g,cap,cur,rfl,hb,hg,hnc,hrest⟩⟩ (i*3+j) (by omega)]
    exact aGT C _ i j hi hj
 obtain⟨ta,tc,rfl,hc,hA⟩:=hA;exact⟨ta,tc,rfl,⟨by show 56*ts.length<=_;omega,C,hA,hr⟩,hc,by show(1:Nat)<=maxLen;unfold maxLen;omega⟩
theorem aCK.part{w:World}{B:Nat}{P:Nat->Prop}{ts:List T}{v:Value}(h:aCK w B P ts v)(hP:∀b,P b->b<w.heap.size)(hl:ts.length<=1000000000):PRep w (·<w.heap.size) ⟨⟨#[97]⟩,ts⟩ (.agg #[.string ⟨#[97]⟩,v]):=
 (h.partP hl).sub fun b hq=>hq.elim (hP b) fun x=>x.2
theorem aCK.keepB{w w':World}{B:Nat}{P:Nat->Prop}{ts:List T}{v:Value}(h:aCK w B P ts v)(hk:∀b,(P b∨(B<=b∧b<w.heap.size))->w'.heap[b]?=w.heap[b]?)(hs:w.heap.size<=w'.heap.size):aCK w' B P ts v:=by
 obtain⟨C,h1,h2⟩:=h;refine⟨C,aB9 h1 fun j hj=>hk j (Or.inr (h1.lt j hj)),fun i hi=>((h2 i hi).mono fun b hq=>hk b (hq.elim Or.inl fun x=>Or.inr ⟨x.1,x.2.1⟩)).sub fun b hq=>?_⟩;exact hq.elim Or.inl fun x=>Or.inr ⟨x.1,by omega,x.2.2⟩
theorem aCK.at{w:World}{B tc:Nat}{P:Nat->Prop}{ts:List T}{ta:Option Addr}(h:aCK w B P ts (.slice ta ts.length tc))(i:Nat)(hi:i<ts.length):
  ∃(g:Nat) (fa:Option Addr) (fc:Nat),ta=some ⟨g,0,none⟩∧B<=g∧g<w.heap.size∧w.cell? ⟨g,i*3,none⟩=some (.string (tth ts i).name)∧w.cell? ⟨g,i*3+1,none⟩=some (.string (tth ts i).key)∧w.cell? ⟨g,i*3+2,none⟩=some (.slice fa (tth ts i).fields.length fc)∧
   (∀j,w.frozen? ⟨g,j,none⟩=false)∧TRep w (Off P B w (.slice ta ts.length tc)) (tth ts i) (.agg #[.string (tth ts i).name,.string (tth ts i).key,.slice fa (tth ts i).fields.length fc]):=by
 obtain⟨C,h1,h2⟩:=h;obtain⟨g,rfl⟩:∃g,ta=some ⟨g,0,none⟩:=by
  obtain⟨-,⟨e,h0⟩| ⟨g,cap,cur,e,-⟩⟩:=h1
  ·simp only[Value.slice.injEq] at e;omega
  ·simp only[Value.slice.injEq] at e;exact⟨g,e.1⟩
 have hr:=h2 i hi;have hr':=hr;obtain⟨fa,fc,e,-⟩:=hr;rw[e] at hr';simp only[Value.agg.injEq,Array.mk.injEq,List.cons.injEq,and_true] at e;obtain⟨e0,e1,e2⟩:=e;have hc:∀j,j<3->w.cell? ⟨g,i*3+j,none⟩=some (C i j):=fun j hj=>(h1.cellAt (i*3+j) (by omega)).trans (aGT C _ i j hi hj)
 exact⟨g,fa,fc,rfl,(h1.lt g rfl).1,(h1.lt g rfl).2,by rw[<-e0];exact hc 0 (by omega),by rw[<-e1];exact hc 1 (by omega),by rw[<-e2];exact hc 2 (by omega),fun j=>h1.frozenAt j,hr'⟩
def aGC(X:World)(A B:Nat)(ts:List T)(W:World):Prop:=∃(ta:Option Addr) (tc:Nat),W.heap[X.heap.size]?=some (.cells #[.string ⟨#[97]⟩,.slice ta ts.length tc] 46 (0,0))∧aCK W (X.heap.size+1) (fun b=>A<=b∧b<B) ts (.slice ta ts.length tc)∧Below X.heap.size X W∧X.heap.size+1<=W.heap.size
theorem aGC.keep{X W W':World}{A B:Nat}{ts:List T}(h:aGC X A B ts W)(hB:B<=X.heap.size)(hb:Below W.heap.size W W'):aGC X A B ts W':=by
 obtain⟨ta,tc,h1,h2,h3,h4⟩:=h;exact⟨ta,tc,(hb.block _ (by omega)).trans h1,h2.keep (fun b hq=>by have:b<B:=hq.2;omega) hb,h3.trans (hb.mono (by omega)),Nat.le_trans h4 hb.size⟩
def aEP(X:World)(A B:Nat)(ts:List T)(bt:Nat)(cs:Array Value)(W:World):Prop:=∃(ta:Option Addr) (tc:Nat),W.heap[X.heap.size]?=some (.cells #[.string ⟨#[97]⟩,.slice ta ts.length tc] 46 (0,0))∧aCK W (X.heap.size+1) (fun b=>A<=b∧b<B) ts (.slice ta ts.length tc)∧Below X.heap.size X W∧X.heap.size+1<=W.heap.size∧(Value.slice ta ts.length tc).ownBlock≠some bt∧W.heap[bt]?=some (.cells cs 96 (0,0))∧X.heap.size<bt∧bt<W.heap.size
theorem aEP.st{X W:World}{A B bt:Nat}{ts:List T}{cs:Array Value}(h:aEP X A B ts bt cs W):aGC X A B ts W:=by
 obtain⟨ta,tc,h1,h2,h3,h4,-⟩:=h;exact⟨ta,tc,h1,h2,h3,h4⟩
theorem aEP.keep{X W W':World}{A B bt:Nat}{ts:List T}{cs:Array Value}(h:aEP X A B ts bt cs W)(hB:B<=X.heap.size)(hb:Below W.heap.size W W'):aEP X A B ts bt cs W':=by
 obtain⟨ta,tc,h1,h2,h3,h4,h5,h6,h7,h8⟩:=h;exact⟨ta,tc,(hb.block _ (by omega)).trans h1,h2.keep (fun b hq=>by have:b<B:=hq.2;omega) hb,h3.trans (hb.mono (by omega)),Nat.le_trans h4 hb.size,h5,(hb.block _ h8).trans h6,h7,Nat.lt_of_lt_of_le h8 hb.size⟩
theorem aGC.box{X W:World}{A B:Nat}{ts:List T}(h:aGC X A B ts W)(hB:B<=X.heap.size)(cs:Array Value):aEP X A B ts W.heap.size cs (W.alloc (.cells cs 96)):=by
 obtain⟨ta,tc,h1,h2,h3,h4⟩:=h;obtain⟨C,ho,hr⟩:=h2;refine⟨ta,tc,?_,?_,?_,?_,fun e=>absurd (ho.lt _ e).2 (Nat.lt_irrefl _),aA3 _ _ rfl,h4,by simp⟩
 ·exact((aA2 W _).block _ h4).trans h1
 ·exact aCK.keep ⟨C,ho,hr⟩ (fun b hq=>by have:b<B:=hq.2;omega) (aA2 W _)
 ·exact h3.trans ((aA2 W _).mono (by omega))
 ·simp;omega
theorem aEP.put{X W:World}{A B bt g tc k:Nat}{ts:List T}{cs:Array Value}(hbox:W.heap[X.heap.size]?=some (.cells #[.string ⟨#[97]⟩,.slice (some ⟨g,0,none⟩) ts.length tc] 46 (0,0)))(hrow:aCK W (X.heap.size+1) (fun b=>A<=b∧b<B) ts (.slice (some ⟨g,0,none⟩) ts.length tc))(hbX:Below X.heap.size X W)(hs:X.heap.size+1<=W.heap.size)(hne:g≠bt)(htb:W.heap[bt]?=some (.cells cs 96 (0,0)))(hxb:X.heap.size<bt)(hbl:bt<W.heap.size)(hB:B<=X.heap.size)(hg:X.heap.size+1<=g)(hk:k<ts.length)(t:T)(d0 d1 d2:Value)(ht:TRep W (Off (fun b=>A<=b∧b<B) (X.heap.size+1) W (.slice (some ⟨g,0,none⟩) ts.length tc)) t (.agg #[d0,d1,d2])):
  aEP X A B (ts.set k t) bt cs (((W.setCell ⟨g,k*3,none⟩ d0).setCell ⟨g,k*3+1,none⟩ d1).setCell ⟨g,k*3+2,none⟩ d2):=by
 have hbk:∀b,b≠g->(((W.setCell ⟨g,k*3,none⟩ d0).setCell ⟨g,k*3+1,none⟩ d1).setCell ⟨g,k*3+2,none⟩ d2).heap[b]?=W.heap[b]?:=fun b hb=>((Below.heap_setCell _ _ _ _ hb).trans (Below.heap_setCell _ _ _ _ hb)).trans (Below.heap_setCell _ _ _ _ hb);have hsz:(((W.setCell ⟨g,k*3,none⟩ d0).setCell ⟨g,k*3+1,none⟩ d1).setCell ⟨g,k*3+2,none⟩ d2).heap.size=W.heap.size:=by simp
 have hT:=hrow.put (k:=k) rfl hk (fun b hq=>by have:b<B:=hq.2;omega) t d0 d1 d2 ht
 refine⟨some ⟨g,0,none⟩,tc,?_,?_,?_,by rw[hsz];exact hs,?_,?_,hxb,by rw[hsz];exact hbl⟩
 ·rw[List.length_set];exact(hbk _ (by omega)).trans hbox
 ·rw[List.length_set];exact hT
 ·have hgx:X.heap.size<=g:=by omega
  exact((hbX.setCell (p:=⟨g,k*3,none⟩) hgx _).setCell (p:=⟨g,k*3+1,none⟩) hgx _).setCell (p:=⟨g,k*3+2,none⟩) hgx _
 ·intro e;exact hne (Option.some.inj e)
 ·exact(hbk _ (Ne.symm hne)).trans htb
theorem aAP.low{w:World}{A B:Nat}{ps:List Pt}{a:Option Addr}(h:aAP w (fun b=>A<=b∧b<B) ps a):aAP w (·<B) ps a:=h.sub fun _ hb=>hb.2
theorem aAP.underA{w w':World}{A B:Nat}{ps:List Pt}{a:Option Addr}(h:aAP w (fun b=>A<=b∧b<B) ps a)(hb:Below B w w'):aAP w' (fun b=>A<=b∧b<B) ps a:=h.mono fun k hk=>hb.block k hk.2
theorem aDA.atA{w:World}{A B:Nat}{ts:List T}{ta:Option Addr}(h:aDA w (fun b=>A<=b∧b<B) ts ta)(hB:B<=w.heap.size)(k:Nat)(hk:k<ts.length):∃(b off:Nat) (fa:Option Addr) (fc:Nat),ta=some ⟨b,off,none⟩∧
  TRep w (fun b=>A<=b∧b<B) (tth ts k) (.agg #[.string (tth ts k).name,.string (tth ts k).key,.slice fa (tth ts k).fields.length fc])∧
  ∀W,Below w.heap.size w W->W.cell? ⟨b,off+k*3,none⟩=some (.string (tth ts k).name)∧W.cell? ⟨b,off+k*3+1,none⟩=some (.string (tth ts k).key)∧W.cell? ⟨b,off+k*3+2,none⟩=some (.slice fa (tth ts k).fields.length fc):=by
 obtain⟨-,C,hA,hr⟩:=h;obtain⟨b,off,rfl,⟨-,hbB⟩,hc⟩:=hA (by omega)
 have hkt:=hr k hk;obtain⟨fa,fc,e0,e1,e2,-⟩:=(hr k hk).parts;rw[e0,e1,e2] at hkt;refine⟨b,off,fa,fc,rfl,hkt,fun W hb=>?_⟩;have hck:∀j,j<3->W.cell? ⟨b,off+k*3+j,none⟩=some (C k j):=fun j hj=>(hb.cell (p:=⟨b,off+k*3+j,none⟩) (by show b<_;omega)).trans (hc k hk j hj)
 have c0:W.cell? ⟨b,off+k*3,none⟩=some (C k 0):=hck 0 (by omega)
 rw[c0,hck 1 (by omega),hck 2 (by omega),e0,e1,e2]
 exact⟨rfl,rfl,rfl⟩
theorem aAP.atA{w:World}{A B:Nat}{ps:List Pt}{a:Option Addr}(h:aAP w (fun b=>A<=b∧b<B) ps a)(i:Nat)(hi:i<ps.length):
  ∃(b off:Nat) (ta:Option Addr) (tc:Nat),a=some ⟨b,off,none⟩∧b<B∧w.cell? ⟨b,off+i*2,none⟩=some (.string (pth ps i).name)∧w.cell? ⟨b,off+i*2+1,none⟩=some (.slice ta (pth ps i).types.length tc)∧PRep w (fun b=>A<=b∧b<B) (pth ps i) (.agg #[.string (pth ps i).name,.slice ta (pth ps i).types.length tc]):=by
 obtain⟨-,C,hA,hr⟩:=h;obtain⟨b,off,rfl,hb,hc⟩:=hA (by omega)
 have hp:=hr i hi;obtain⟨ta,tc,e,-⟩:=hp;simp only[Value.agg.injEq,Array.mk.injEq,List.cons.injEq,and_true] at e;refine⟨b,off,ta,tc,rfl,hb.2,?_,?_,?_⟩
 ·rw[<-e.1];exact hc i hi 0 (by omega)
 ·rw[<-e.2];exact hc i hi 1 (by omega)
 ·rw[<-e.1,<-e.2];exact hr i hi
theorem aBJ.atF{w:World}{A B:Nat}{fs:List F}{a:Option Addr}(h:aBJ w (fun b=>A<=b∧b<B) fs a)(n:Nat)(hn:n<fs.length):
  ∃(b off:Nat) (na:Option Addr) (nc:Nat),a=some ⟨b,off,none⟩∧b<B∧(∀j,j<8->w.cell? ⟨b,off+n*8+j,none⟩=some ([Value.string (fth fs n).name,.string (fth fs n).of,.bool (fth fs n).list,.bool (fth fs n).must,.bool (fth fs n).far,.bool (fth fs n).hidden,.bool (fth fs n).shared,.slice na (fth fs n).needs.length nc].getD j undef))∧FRep w (fun b=>A<=b∧b<B) (fth fs n) (fval (fth fs n) na nc):=by
 obtain⟨-,C,hA,hr⟩:=h;obtain⟨b,off,rfl,hb,hc⟩:=hA (by omega)
 have hr':=hr n hn;obtain⟨na,nc,e,-⟩:=hr n hn;rw[e] at hr';refine⟨b,off,na,nc,rfl,hb.2,fun j hj=>?_,hr'⟩;rw[hc n hn j hj];simp only[Value.agg.injEq,Array.mk.injEq,List.cons.injEq,and_true] at e;obtain⟨e0,e1,e2,e3,e4,e5,e6,e7⟩:=e;rcases j with _| _| _| _| _| _| _| _| j
 ·simp[e0]
 ·simp[e1]
 ·simp[e2]
 ·simp[e3]
 ·simp[e4]
 ·simp[e5]
 ·simp[e6]
 ·simp[e7]
 ·omega
theorem aQ3{w:World}{P:Nat->Prop}{p:Pt}{v:Value}(h:PRep w P p v)(nm:ByteArray):(aA5 p nm).key.size<=maxLen:=by
 obtain⟨ta,tc,-,⟨-,C,-,hr⟩,-⟩:=h;have hz:∀i,(tth p.types i).key.size<=maxLen:=fun i=>by
  by_cases hi:i<p.types.length
  ·obtain⟨_,_,-,-,-,-,hk⟩:=hr i hi;exact hk
  ·have:tth p.types i=T.zero:=by simp[tth,List.getD_eq_getElem?_getD,List.getElem?_eq_none (Nat.le_of_not_lt hi)]
   rw[this];exact Nat.zero_le _
 unfold aA5;split
 ·exact hz _
 ·exact Nat.zero_le _
theorem aQU{w:World}{P:Nat->Prop}{ps:List Pt}{a:Option Addr}(h:aAP w P ps a)(nm:ByteArray):(keyM ps nm).size<=maxLen:=by
 unfold keyM;split
 ·rename_i hx;have hk:aOC ps nm=aA9 (fun i=>!(aA5 (pth ps i) nm).key.toList.isEmpty) ps.length:=rfl;rcases aA8 (fun i=>!(aA5 (pth ps i) nm).key.toList.isEmpty) ps.length with⟨h2,-⟩| ⟨g,h2,hg,-,-⟩
  ·rw[hk,h2] at hx;omega
  ·rw[hk,h2];obtain⟨-,C,-,hr⟩:=h;exact aQ3 (hr g hg) nm
 ·exact Nat.zero_le _
theorem aV3:(Tryz.prog.info? 96).map (fun i=>(i.zero.map fun z=>z.cells.size,i.size,i.bytes))=some (some 3,3,56):=by kernel_rfl
theorem aIL:∃(i:TypeInfo) (z:Value),Tryz.prog.info? 96=some i∧i.zero=some z∧i.size=3∧i.bytes=56∧z.cells.size=3:=by
 have h:=aV3;cases hi:Tryz.prog.info? 96 with
 |none=>rw[hi] at h;cases h
 |some i=>
  rw[hi] at h;simp only[Option.map_some,Option.some.injEq,Prod.mk.injEq] at h;obtain⟨h1,h2,h3⟩:=h;cases hz:i.zero with
  |none=>rw[hz] at h1;cases h1
  |some z=>
   rw[hz] at h1;simp only[Option.map_some,Option.some.injEq] at h1;exact⟨i,z,rfl,hz,h2,h3,h1⟩
theorem aEP.push{X W W':World}{A B bt gF capF tc:Nat}{ts:List T}{ta:Option Addr}{cs:Array Value}{C:Nat->Nat->Value}(hbox:W.heap[X.heap.size]?=some (.cells #[.string ⟨#[97]⟩,.slice ta ts.length tc] 46 (0,0)))(ho:W.ownsRow (X.heap.size+1) 96 3 (.slice ta ts.length tc) ts.length (aDG C ts.length))(h2:∀i,i<ts.length->TRep W (Off (fun b=>A<=b∧b<B) (X.heap.size+1) W (.slice ta ts.length tc)) (tth ts i) (.agg #[C i 0,C i 1,C i 2]))
  (hbX:Below X.heap.size X W) (hs:X.heap.size+1<=W.heap.size) (hne:(Value.slice ta ts.length tc).ownBlock≠some bt) (htb:W.heap[bt]?=some (.cells cs 96 (0,0))) (hxb:X.heap.size<bt) (hbl:bt<W.heap.size) (hB:B<=X.heap.size) (t:T) (d0 d1 d2:Value) (ht:TRep W (Off (fun b=>A<=b∧b<B) (X.heap.size+1) W (.slice ta ts.length tc)) t (.agg #[d0,d1,d2]))
  (oF:W'.ownsRow (X.heap.size+1) 96 3 (.slice (some ⟨gF,0,none⟩) (ts.length+1) capF) (ts.length+1) (aDG C ts.length++[d0,d1,d2])) (hg:W.grownBy W' (Value.slice ta ts.length tc).ownBlock) (hob:(Value.slice (some ⟨gF,0,none⟩) (ts.length+1) capF).ownBlock=(Value.slice ta ts.length tc).ownBlock∨(Value.slice (some ⟨gF,0,none⟩) (ts.length+1) capF).ownBlock=some W.heap.size):
  aEP X A B (ts++[t]) bt cs (W'.setCell ⟨X.heap.size,1,none⟩ (.slice (some ⟨gF,0,none⟩) (ts.length+1) capF)):=by
 have hlt:=ho.lt;have hk:∀b,b<W.heap.size->(Value.slice ta ts.length tc).ownBlock≠some b->W'.heap[b]?=W.heap[b]?:=fun b hb hn=>hg.block b hb (fun e=>hn e.symm);have hT:=aCK.push (w':=W') (v':=.slice (some ⟨gF,0,none⟩) (ts.length+1) capF) h2 (fun b hq=>by have:b<B:=hq.2;omega) (fun b hq=>by have:b<B:=hq.2;omega) t d0 d1 d2 ht oF hk hg.size (fun b e=>by
  rcases hob with h| h
  ·exact Or.inl (h.symm.trans e)
  ·rw[h] at e;exact Or.inr (Nat.le_of_eq (Option.some.inj e))) (fun b e=>(hlt b e).1)
 have hx0:W'.heap[X.heap.size]?=some (.cells #[.string ⟨#[97]⟩,.slice ta ts.length tc] 46 (0,0)):=(hk _ (by omega) (fun e=>by have:=(hlt _ e).1;omega)).trans hbox
 have hl1:(ts++[t]).length=ts.length+1:=by simp
 refine⟨some ⟨gF,0,none⟩,capF,?_,?_,?_,?_,?_,?_,hxb,?_⟩
 ·rw[hl1];exact aAC hx0 1 _
 ·rw[hl1];refine hT.keepB (fun b hq=>Below.heap_setCell _ _ _ _ ?_) (by simp)
  rcases hq with h| h
  ·have:b<B:=h.2;show b≠X.heap.size;omega
  ·show b≠X.heap.size;omega
 ·exact(hbX.grown hg (by omega) (fun k e=>by have:=(hlt k e).1;omega)).setCell (Nat.le_refl _) _
 ·have:=hg.size;simp;omega
 ·intro e;rcases hob with h| h
  ·exact hne (h.symm.trans e)
  ·have e2:some W.heap.size=some bt:=h.symm.trans e;have:=Option.some.inj e2;omega
 ·refine(Below.heap_setCell _ _ _ _ ?_).trans ((hk bt hbl hne).trans htb);show bt≠X.heap.size;omega
 ·have:=hg.size;simp;omega
end Go.Proofs.YtcebpkeiaiiphaaGreatDoor
namespace Go.Proofs.YtcebpkeiaiiphaaGreatDoor
open Go.RowKit
def aJ1(f:F):F:=⟨f.name,f.of,f.list,f.must,f.far,f.hidden,f.shared,[]⟩
def aVP(f:F):F:=⟨f.name,f.of,f.list,f.must,false,false,false,[]⟩
def aAU(fs:List F):Nat->List F
 |0=>[]
 |k+1=>aAU fs k++if(fth fs k).hidden=true then[] else[aJ1 (fth fs k)]
def aN5(fs:List F):Nat->List F
 |0=>[]
 |k+1=>aN5 fs k++if(fth fs k).hidden=true then[] else[aVP (fth fs k)]
theorem aFU(fs:List F):∀k,(aN5 fs k).length<=k
 |0=>Nat.le_refl _
 |k+1=>by have:=aFU fs k;rw[aN5,List.length_append];split<;>simp<;>omega
theorem aFO(fs:List F):∀k,(aAU fs k).length=(aN5 fs k).length
 |0=>rfl
 |k+1=>by rw[aAU,aN5,List.length_append,List.length_append,aFO fs k];split<;>simp
def nl(l:List UInt8):Nat:=l.countP (·==10)
end Go.Proofs.YtcebpkeiaiiphaaGreatDoor
namespace Go.Proofs.YtcebpkeiaiiphaaGreatDoor
open Go.RowKit Go.Maps
def aL4(f:F):List Value:=[.string f.name,.string f.of,.bool f.list,.bool f.must,.bool f.far,.bool f.hidden,.bool f.shared,.slice none 0 0]
def aHC:List F->List Value
 |[]=>[]
 |f::r=>aL4 f++aHC r
theorem aM3:∀(a:List F) (f:F),aHC (a++[f])=aHC a++aL4 f
 |[],f=>by simp[aHC]
 |x::r,f=>by rw[List.cons_append,aHC,aHC,aM3 r f,List.append_assoc]
theorem aON:∀(a:List F) (i j:Nat),i<a.length->j<8->(aHC a)[i*8+j]?=(aL4 (fth a i))[j]?
 |[],i,j,h,_=>absurd h (Nat.not_lt_zero _)
 |x::r,0,j,_,hj=>by
  rw[aHC,Nat.zero_mul,Nat.zero_add,List.getElem?_append_left (by simp[aL4];omega)]
  rfl
 |x::r,i+1,j,h,hj=>by
  have hl:(aL4 x).length=8:=rfl;rw[aHC,List.getElem?_append_right (by rw[hl];omega),hl,show(i+1)*8+j- 8=i*8+j by omega,aON r i j (by simpa using h) hj]
  simp[fth]
theorem aRE{W:World}{base n c:Nat}{a:Option Addr}{L:List F}(h:W.ownsRow base 80 8 (.slice a n c) L.length (aHC L))(hl:L.length<=1000000000)(hs:∀i,i<L.length->(fth L i).needs=[]∧(fth L i).name.size<=maxLen∧(fth L i).of.size<=maxLen):
  n=L.length∧L.length<=c∧aBJ W (fun b=>base<=b∧b<W.heap.size) L a:=by
 have hr:∀i,i<L.length->FRep W (fun b=>base<=b∧b<W.heap.size) (fth L i) (.agg #[.string (fth L i).name,.string (fth L i).of,.bool (fth L i).list,.bool (fth L i).must,.bool (fth L i).far,.bool (fth L i).hidden,.bool (fth L i).shared,.slice none 0 0]):=fun i hi=>by
  obtain⟨h1,h2,h3⟩:=hs i hi;refine⟨none,0,by rw[h1];rfl,?_,by rw[h1];exact Nat.le_refl _,h2,h3,by rw[h1];simp⟩
  rw[h1];exact⟨fun hn=>absurd rfl hn,fun j=>by simp[nth,maxLen],by simp[maxLen]⟩
 rcases h.2 with⟨e,h0⟩| ⟨g,cap,cur,e,hg,hh,hn,-⟩
 ·simp only[Value.slice.injEq] at e;obtain⟨rfl,rfl,rfl⟩:=e;exact⟨h0.symm,by omega,by omega,fun i j=>(aL4 (fth L i)).getD j undef,fun hp=>by omega,hr⟩
 ·simp only[Value.slice.injEq] at e;obtain⟨rfl,rfl,rfl⟩:=e;have hlt:g<W.heap.size:=(Array.getElem?_eq_some_iff.1 hh).1;refine⟨rfl,by omega,by omega,fun i j=>(aL4 (fth L i)).getD j undef,fun _=>⟨g,0,rfl,⟨hg,hlt⟩,fun i hi j hj=>?_⟩,hr⟩
  rw[Nat.zero_add,h.cellAt (i*8+j) (by omega),aON L i j hi hj]
  show _=some ((aL4 (fth L i)).getD j undef);rw[List.getD_eq_getElem?_getD,List.getElem?_eq_getElem (by simp[aL4];omega)]
  rfl
theorem aKT{P:F->Prop}{fs:List F}:∀k,(∀j,j<k->P (aJ1 (fth fs j)))->∀i,i<(aAU fs k).length->P (fth (aAU fs k) i)
 |0,_,i,hi=>absurd hi (Nat.not_lt_zero _)
 |k+1,h,i,hi=>by
  have ih:=aKT k fun j hj=>h j (by omega)
  rw[aAU] at hi ⊢;cases hh:(fth fs k).hidden
  ·rw[hh] at hi;simp only[Bool.false_eq_true,if_false,List.length_append,List.length_singleton] at hi ⊢;by_cases e:i<(aAU fs k).length
   ·rw[aGI _ _ _ e];exact ih i e
   ·have:i=(aAU fs k).length:=by omega
    subst this;rw[aGE];exact h k (by omega)
  ·rw[hh] at hi;simp only[if_true,List.append_nil] at hi ⊢;exact ih i hi
set_option maxRecDepth 20000 in
set_option maxHeartbeats 3200000 in
theorem aK1(t:T)(w:World)(B:Nat)(v:Value)(hT:TRep w (·<B) t v)(hB:B<=w.heap.size)(hz:szT t<=1048576):
  Calls Tryz.prog 56 #[v] w fun e w'=>∃(a:Option Addr) (c:Nat),e=.returned (.slice a (aAU t.fields t.fields.length).length c)∧Below w.heap.size w w'∧(aAU t.fields t.fields.length).length<=c∧aBJ w' (fun b=>w.heap.size<=b∧b<w'.heap.size) (aAU t.fields t.fields.length) a:=by
 obtain⟨fa,fc,rfl,hF,hfc,hs1,hs2⟩:=hT;obtain⟨tname,tkey,fs⟩:=t;simp only at hF hfc hs1 hs2 ⊢;have hfl:fs.length<=1048576:=by
  have h2:szT ⟨tname,tkey,fs⟩=tname.size+tkey.size+(fs.length+aBE fs fs.length):=rfl;omega
 obtain⟨iF,zF,hiF,hF0,hF1,hF2,hFz⟩:=aDZ;have HSM:Hid (∀j,j<fs.length->(fth fs j).name.size<=maxLen∧(fth fs j).of.size<=maxLen):=aA0 fun j hj=>by
  obtain⟨-,C,-,hr⟩:=hF;obtain⟨_,_,_,_,_,h1,h2,_⟩:=hr j hj;exact⟨h1,h2⟩
 have HF:Hid (∀W,Below w.heap.size w W->∀k,k<fs.length->∃(b off:Nat) (na:Option Addr) (nc:Nat),fa=some ⟨b,off,none⟩∧W.cell? ⟨b,off+k*8,none⟩=some (.string (fth fs k).name)∧W.cell? ⟨b,off+k*8+1,none⟩=some (.string (fth fs k).of)∧W.cell? ⟨b,off+k*8+2,none⟩=some (.bool (fth fs k).list)∧W.cell? ⟨b,off+k*8+3,none⟩=some (.bool (fth fs k).must)∧W.cell? ⟨b,off+k*8+4,none⟩=some (.bool (fth fs k).far)∧W.cell? ⟨b,off+k*8+5,none⟩=some (.bool (fth fs k).hidden)∧W.cell? ⟨b,off+k*8+6,none⟩=some (.bool (fth fs k).shared)∧W.cell? ⟨b,off+k*8+7,none⟩=some (.slice na (fth fs k).needs.length nc)):=aA0 fun W hW k hk=>by
  obtain⟨b,off,na,nc,e,-,hc⟩:=hF.at hB k hk;exact⟨b,off,na,nc,e,hc W hW⟩
 clear hF hz;go_enter Tryz.func56,Tryz.ntmps56
 go_wp2_with fail
 go_loopw [3,9] (fun y i wr=>∃(k:Nat) (L:List F) (oa:Option Addr) (oc:Nat),k<=fs.length∧y=.slice oa L.length oc∧i=.int .i64 k∧Hid (L=aAU fs k)∧Hid (wr.ownsRow w.heap.size 80 8 (.slice oa L.length oc) L.length (aHC L))∧Below w.heap.size w wr) (fun _ i _=>fs.length- (intOf i).toNat)
 case atStart=>exact⟨0,[],none,0,Nat.zero_le _,rfl,rfl,aA0 rfl,aA0 (World.ownsRow_nil _ _ _ _),aA2 _ _⟩
 case round=>
  obtain⟨k,L,oa,oc,hk,rfl,rfl,HL,HR,hb⟩:=hrel;obtain⟨w0,rfl⟩:∃x,x=wr:=⟨wr,rfl⟩;have z0:=hb.size;by_cases hlt:k<fs.length
  case neg=>
   have e:k=fs.length:=by omega
   have hki:¬(k:Int)<(fs.length:Int):=by omega
   have HFIN:Hid (∃(a:Option Addr) (c:Nat),Ending.returned (.slice oa L.length oc)=.returned (.slice a (aAU fs fs.length).length c)∧Below w.heap.size w w0∧(aAU fs fs.length).length<=c∧aBJ w0 (fun b=>w.heap.size<=b∧b<w0.heap.size) (aAU fs fs.length) a):=aA0 (by
    have hL:=HL.out;rw[e] at hL;have hlen:=aFO fs fs.length;have hlen2:=aFU fs fs.length;obtain⟨h1,h2,h3⟩:=aRE HR.out (by rw[hL];omega) (by
     rw[hL];exact aKT (P:=fun f=>f.needs=[]∧f.name.size<=maxLen∧f.of.size<=maxLen) fs.length fun j hj=>⟨rfl,HSM.out j hj⟩)
    rw[<-hL];exact⟨oa,oc,rfl,hb,h2,h3⟩)
   go_wp2_with fail
   go_ret
   exact HFIN.out
  case pos=>
   have hki:(k:Int)<(fs.length:Int):=by omega
   obtain⟨b,off,na,nc,rfl,c0,c1,c2,c3,c4,c5,c6,c7⟩:=HF.out w0 hb k hlt;have HLL:Hid (L.length<=1048576):=aA0 (by rw[HL.out];have:=aFO fs k;have:=aFU fs k;omega)
   have HSU:Hid (aAU fs (k+1)=L++if(fth fs k).hidden=true then[] else[aJ1 (fth fs k)]):=aA0 (by rw[HL.out];rfl)
   generalize fth fs k=f at*;obtain⟨fn,fo,fl,fm,ff,fh,fsh,fnd⟩:=f;simp only at c0 c1 c2 c3 c4 c5 c6 c7 HSU;cases fh
   rotate_left
   ·have HN:Hid (L=aAU fs (k+1)):=aA0 (by rw[HSU.out];simp)
    have bX:=aA2 w0 (.cells #[.string fn,.string fo,.bool fl,.bool fm,.bool ff,.bool true,.bool fsh,.slice na fnd.length nc] 80);have HRX:=aA0 (aAE HR.out bX);go_wp2_with fail
    go_roundw
    case rel=>exact⟨k+1,L,oa,oc,by omega,rfl,by go_num,HN,HRX,hb.trans (bX.mono z0)⟩
    case measure=>simp[intOf];omega
   ·have bX:=aA2 w0 (.cells #[.string fn,.string fo,.bool fl,.bool fm,.bool ff,.bool false,.bool fsh,.slice na fnd.length nc] 80);have nX:=aA3 (w:=w0) (N:=w0.heap.size) #[.string fn,.string fo,.bool fl,.bool fm,.bool ff,.bool false,.bool fsh,.slice na fnd.length nc] 80 rfl;have hXs:(w0.alloc (.cells #[.string fn,.string fo,.bool fl,.bool fm,.bool ff,.bool false,.bool fsh,.slice na fnd.length nc] 80)).heap.size=w0.heap.size+1:=by simp
    have HN:Hid (aAU fs (k+1)=L++[⟨fn,fo,fl,fm,ff,false,fsh,[]⟩]):=aA0 (by rw[HSU.out];rfl)
    have nY:=aA3 (w:=w0) (N:=w0.heap.size) #[.string fn,.string fo,.bool fl,.bool fm,.bool ff,.bool false,.bool fsh,.slice none 0 0] 80 rfl;have bY:=aA2 w0 (.cells #[.string fn,.string fo,.bool fl,.bool fm,.bool ff,.bool false,.bool fsh,.slice none 0 0] 80);have hYs:(w0.alloc (.cells #[.string fn,.string fo,.bool fl,.bool fm,.bool ff,.bool false,.bool fsh,.slice none 0 0] 80)).heap.size=w0.heap.size+1:=by simp
    go_upto_region 7 with fail
    clear c0 c1 c2 c3 c4 c5 c6 c7;generalize w0.alloc (.cells #[.string fn,.string fo,.bool fl,.bool fm,.bool ff,.bool false,.bool fsh,.slice none 0 0] 80)=Y at*;have rY:=aAE HR.out bY;have bA:=aA2 Y (.cells #[.string fn,.string fo,.bool fl,.bool fm,.bool ff,.bool false,.bool fsh,.slice none 0 0] 80);have nA:=aA3 (w:=Y) (N:=w0.heap.size+1) #[.string fn,.string fo,.bool fl,.bool fm,.bool ff,.bool false,.bool fsh,.slice none 0 0] 80 hYs;have rA:=aAE rY bA;have zA:(Y.alloc (.cells #[.string fn,.string fo,.bool fl,.bool fm,.bool ff,.bool false,.bool fsh,.slice none 0 0] 80)).heap.size=Y.heap.size+1:=by simp
    have bZ:=hb.trans ((bY.trans (bA.mono (by omega))).mono z0)
    obtain⟨y0,-⟩:=aA1 nY 0 (by simp)
    obtain⟨y1,-⟩:=aA1 nY 1 (by simp)
    obtain⟨y2,-⟩:=aA1 nY 2 (by simp)
    obtain⟨y3,-⟩:=aA1 nY 3 (by simp)
    obtain⟨y4,-⟩:=aA1 nY 4 (by simp)
    obtain⟨y5,-⟩:=aA1 nY 5 (by simp)
    obtain⟨y6,-⟩:=aA1 nY 6 (by simp)
    obtain⟨y7,-⟩:=aA1 nY 7 (by simp)
    simp only[List.getElem_toArray,List.getElem_cons_zero,List.getElem_cons_succ] at y0 y1 y2 y3 y4 y5 y6 y7;have hLL:=HLL.out;obtain⟨n,hn⟩:∃n,n=L.length:=⟨_,rfl⟩;obtain⟨xs,hxs⟩:∃xs,xs=aHC L:=⟨_,rfl⟩;have HEND:Hid (∀g cap wF,wF.ownsRow w.heap.size 80 8 (.slice (some ⟨g,0,none⟩) (n+1) cap) (n+1) (xs++[.string fn,.string fo,.bool fl,.bool fm,.bool ff,.bool false,.bool fsh,.slice none 0 0])->(Y.alloc (.cells #[.string fn,.string fo,.bool fl,.bool fm,.bool ff,.bool false,.bool fsh,.slice none 0 0] 80)).grownBy wF (Value.slice oa n oc).ownBlock->∃L':List F,n+1=L'.length∧Hid (L'=aAU fs (k+1))∧Hid (wF.ownsRow w.heap.size 80 8 (.slice (some ⟨g,0,none⟩) L'.length cap) L'.length (aHC L'))∧Below w.heap.size w wF):=aA0 fun g cap wF ho hg=>by
     refine⟨L++[⟨fn,fo,fl,fm,ff,false,fsh,[]⟩],by rw[hn];simp,aA0 HN.out.symm,aA0 ?_,bZ.grown hg (by omega) fun b hb=>?_⟩
     ·rw[List.length_append,List.length_singleton,aM3,<-hn,<-hxs];exact ho
     ·rw[hn] at hb;exact(HR.out.lt b hb).1
    rw[<-hn,<-hxs] at rA;rw[<-hn] at hLL ⊢;replace hn:=aA0 hn
    replace hxs:=aA0 hxs
    clear bX nX hXs nY bY rY bA bZ;go_wp2_with (
     at_builtin
     refine wpList_append_lies _ rfl _ _ 94 rfl w.heap.size 80 iF zF 8 64 Tryz.underlying94 hiF hF0 hF1 hF2 hFz (by decide) (.slice oa n oc) n xs rfl rA ⟨w0.heap.size+1,0,none⟩ 1 1 [.string fn,.string fo,.bool fl,.bool fm,.bool ff,.bool false,.bool fsh,.slice none 0 0] rfl rfl (World.news_of_block nA) (by intro u hu;simp at hu;rcases hu with rfl| rfl| rfl| rfl| rfl| rfl| rfl| rfl<;>rfl) (by omega) (by unfold maxLen;omega) (by omega) (by omega) (w0.heap.size+1+1) (by omega) ?_
     intro g cap wF ho hg hor hlt1;obtain⟨L',hL1,HL2,HL3,bF⟩:=HEND.out g cap wF ho hg;clear ho hg hor)
    go_roundw
    case rel=>exact⟨k+1,L',some ⟨g,0,none⟩,cap,by omega,rfl,by go_num,HL2,HL3,bF⟩
    case measure=>simp[intOf];omega
end Go.Proofs.YtcebpkeiaiiphaaGreatDoor
namespace Go.Proofs.YtcebpkeiaiiphaaGreatDoor
open Go.RowKit
theorem aBI{w w':World}{base e sz n:Nat}{v:Value}{xs:List Value}(h:w.ownsRow base e sz v n xs)(hb:Below w.heap.size w w'):w'.ownsRow base e sz v n xs:=by
 refine⟨h.1,h.2.imp id ?_⟩;rintro⟨g,cap,cur,hv,hg,hh,hr⟩;refine⟨g,cap,cur,hv,hg,(hb.block g ?_).trans hh,hr⟩;rcases Nat.lt_or_ge g w.heap.size with h| h
 ·exact h
 ·simp[Array.getElem?_eq_none h] at hh
theorem aDW{w:World}{base e sz n:Nat}{v:Value}{xs:List Value}(h:w.ownsRow base e sz v n xs)(k:Nat)(hk:v.ownBlock=some k):base<=k∧k<w.heap.size:=by
 rcases h.2 with⟨rfl,-⟩| ⟨g,cap,cur,rfl,hg,hh,-⟩
 ·simp[Value.ownBlock] at hk
 ·simp[Value.ownBlock] at hk;subst hk;refine⟨hg,?_⟩;rcases Nat.lt_or_ge g w.heap.size with h| h
  ·exact h
  ·simp[Array.getElem?_eq_none h] at hh
def aSF(v:Value)(a b:Nat):Prop:=v.ownBlock≠some a∧v.ownBlock≠some b
set_option maxRecDepth 20000 in
set_option maxHeartbeats 6400000 in
theorem aJP(p q:Pt)(w:World)(B:Nat)(v u:Value)(hP:PRep w (·<B) p v)(hQ:PRep w (·<B) q u)(hB:B<=w.heap.size)(hz:szP p<=1048576)(hzq:szP q<=1048576):
  Calls Tryz.prog 45 #[v,u] w fun e w'=>aCA w w' (aD4 p q) e:=by
 have hP':=hP;have hQ':=hQ;have HL:Hid (aD4 p q=if(okP p&&okP q)=true then brT p q p.types.length else[]):=rfl
 have HS:Hid (∀i,∀x∈ brT p q i,x.size<=2097153):=aIK p q hz;have HN:Hid (∀i,i<=p.types.length->(brT p q i).length<=1048576):=fun i hi=>by
  have h1:=aJJ p q i;have h2:=aD8 p.types i _ hi;have h3:szP p=p.name.size+(p.types.length+aB1 p.types p.types.length):=rfl;omega
 have HBT:Hid (∀i k,(aF4 (tth p.types i) k).size<=2097153):=aGK p hz;obtain⟨pname,types⟩:=p;obtain⟨ta,tc,rfl,hK,hnc,hpn⟩:=hP;obtain⟨qname,qtypes⟩:=q;obtain⟨qa,qc,rfl,hKq,hncq,hqn⟩:=hQ;simp only at hK hnc hpn hP' hKq hncq hqn hQ';have h56:=hK.1;obtain⟨X,hXe⟩:∃X,X=((w.alloc (.cells #[.string pname,.slice ta types.length tc] 46)).alloc (.cells #[.string qname,.slice qa qtypes.length qc] 46)):=⟨_,rfl⟩;have PC:∀W,Below (w.heap.size+1+1) X W->W.cell? ⟨w.heap.size,0,none⟩=some (.string pname)∧W.cell? ⟨w.heap.size,1,none⟩=some (.slice ta types.length tc)∧W.cell? ⟨w.heap.size+1,0,none⟩=some (.string qname)∧W.cell? ⟨w.heap.size+1,1,none⟩=some (.slice qa qtypes.length qc)∧Below w.heap.size w W∧w.heap.size+1<W.heap.size:=fun W h=>by
  subst hXe;have hz:=h.size;simp at hz;have a:∀i (hi:i<2),W.cell? ⟨w.heap.size,i,none⟩=some #[Value.string pname,.slice ta types.length tc][i]:=fun i hi=>(h.cell (p:=⟨w.heap.size,i,none⟩) (by show w.heap.size<_;omega)).trans (((aA2 _ _).cell (p:=⟨w.heap.size,i,none⟩) (by show w.heap.size<_;simp)).trans (aBC _ _ i (by simpa using hi)))
  have c:∀i (hi:i<2),W.cell? ⟨w.heap.size+1,i,none⟩=some #[Value.string qname,.slice qa qtypes.length qc][i]:=fun i hi=>(h.cell (p:=⟨w.heap.size+1,i,none⟩) (by show w.heap.size+1<_;omega)).trans (by
   have:=aBC (w:=w.alloc (.cells #[.string pname,.slice ta types.length tc] 46)) #[Value.string qname,.slice qa qtypes.length qc] 46 i (by simpa using hi)
   rw[show(w.alloc (.cells #[.string pname,.slice ta types.length tc] 46)).heap.size=w.heap.size+1 by simp] at this
   exact this)
  exact⟨a 0 (by omega),a 1 (by omega),c 0 (by omega),c 1 (by omega),(aA6 w _ _).trans (h.mono (by omega)),by omega⟩
 have hT0:Below (w.heap.size+1+1) X ((w.alloc (.cells #[.string pname,.slice ta types.length tc] 46)).alloc (.cells #[.string qname,.slice qa qtypes.length qc] 46)):=by rw[hXe];exact Below.refl _ _
 clear hXe;have hBW:=fun W (h:Below (w.heap.size+1+1) X W)=>show B<=W.heap.size by have:=(PC W h).2.2.2.2.2;omega
 have hC:=fun W h=>aCR ⟨pname,types⟩ W B _ (hP'.under ((PC W h).2.2.2.2.1.mono hB)) (hBW W h) hz;have hD:=fun W h=>aCR ⟨qname,qtypes⟩ W B _ (hQ'.under ((PC W h).2.2.2.2.1.mono hB)) (hBW W h) hzq;have hF:=fun W h s=>aFF ⟨qname,qtypes⟩ W B _ s (hQ'.under ((PC W h).2.2.2.2.1.mono hB)) (hBW W h);cases ho:okP ⟨pname,types⟩
 ·have HA:Hid (aD4 ⟨pname,types⟩ ⟨qname,qtypes⟩=[]):=by show _=_;rw[HL.out,ho];rfl
  rcases aF0 _ ho with⟨x,hx⟩| ⟨i,x,hx⟩<;>rw[hx] at hC
  all_goals
   clear hF hD;go_enter Tryz.func45,Tryz.ntmps45
   go_wp2_with (
    go_at_call 66
    refine(hC _ hT0).mono ?_;rintro e w1 ⟨rfl,hb1⟩;have hT1:=hT0.trans (hb1.mono (by simp)))
   go_ret
   rw[HA.out];exact aCA.nil (PC w1 hT1).2.2.2.2.1
 rw[aFT _ ho] at hC;cases ho2:okP ⟨qname,qtypes⟩
 ·have HA:Hid (aD4 ⟨pname,types⟩ ⟨qname,qtypes⟩=[]):=by show _=_;rw[HL.out,ho2];simp
  have C1:=hC _ hT0;rcases aF0 _ ho2 with⟨x,hx⟩| ⟨i,x,hx⟩<;>rw[hx] at hD
  all_goals
   clear hF hC;go_enter Tryz.func45,Tryz.ntmps45
   go_wp2_with fail
   refine C1.mono ?_;rintro e w1 ⟨rfl,hb1⟩;have hT1:=hT0.trans (hb1.mono (by simp))
   obtain⟨p0,p1,q0,q1,hw1,hz1⟩:=PC w1 hT1;go_wp2_with fail
   refine(hD w1 hT1).mono ?_;rintro e w2 ⟨rfl,hb2⟩;have hT2:=hT1.trans (hb2.mono (by omega))
   go_wp2_with fail
   go_ret
   rw[HA.out];exact aCA.nil (PC w2 hT2).2.2.2.2.1
 rw[aFT _ ho2] at hD;have HA:Hid (aD4 ⟨pname,types⟩ ⟨qname,qtypes⟩=brT ⟨pname,types⟩ ⟨qname,qtypes⟩ types.length):=by show _=_;rw[HL.out,ho,ho2];rfl
 have C1:=hC _ hT0;clear hC ho ho2 HL;go_enter Tryz.func45,Tryz.ntmps45
 go_wp2_with fail
 refine C1.mono ?_;rintro e w1 ⟨rfl,hb1⟩;have hT1:=hT0.trans (hb1.mono (by simp))
 clear C1 hb1 hT0;obtain⟨p0,p1,q0,q1,hw1,hz1⟩:=PC w1 hT1;go_wp2_with fail
 refine(hD w1 hT1).mono ?_;rintro e w2 ⟨rfl,hb2⟩;have hT2:=hT1.trans (hb2.mono (by omega))
 clear hD hb2 hT1 p0 p1 q0 q1 hw1 hz1;obtain⟨p0,p1,q0,q1,hw2,hz2⟩:=PC w2 hT2;go_wp2_with fail
 go_loopw [5,23] (fun br i wr=>∃(k:Nat) (v:Value),k<=types.length∧i=.int .i64 k∧v=br∧Hid (wr.ownsRow (w.heap.size+1+1) 9 1 v (brT ⟨pname,types⟩ ⟨qname,qtypes⟩ k).length ((brT ⟨pname,types⟩ ⟨qname,qtypes⟩ k).map Value.string))∧Below (w.heap.size+1+1) X wr) (fun _ i _=>types.length- (intOf i).toNat)
 case atStart=>exact⟨0,_,Nat.zero_le _,rfl,rfl,World.ownsRow_nil _ _ _ _,hT2⟩
 case round=>
  clear hT2 p0 p1 q0 q1 hw2 hz2;obtain⟨k,v,hk,rfl,rfl,HO,hT3⟩:=hrel;obtain⟨w0,rfl⟩:∃x,x=wr:=⟨wr,rfl⟩;obtain⟨p0,p1,q0,q1,hw0,hz0⟩:=PC w0 hT3;by_cases hlt:k<types.length
  ·obtain⟨b,off,fa,fc,rfl,htr,hcs⟩:=hK.at hB k hlt;obtain⟨c0,c1,c2⟩:=hcs w0 hw0;obtain⟨fa',fc',e0,e1,e2,hfs,hffc,hs1,hs2⟩:=htr.parts;simp only[Value.slice.injEq] at e2;obtain⟨rfl,-,rfl⟩:=e2;have hf64:=hfs.1;have hki:(k:Int)<(types.length:Int):=by omega
   clear e0 e1 hcs;have hT4:=hT3.alloc (by omega) (.cells #[.string (tth types k).name,.string (tth types k).key,.slice fa (tth types k).fields.length fc] 96)
   obtain⟨p40,p41,q40,q41,hw4,hz4⟩:=PC _ hT4;have HO4:Hid ((w0.alloc (.cells #[.string (tth types k).name,.string (tth types k).key,.slice fa (tth types k).fields.length fc] 96)).ownsRow (w.heap.size+1+1) 9 1 v (brT ⟨pname,types⟩ ⟨qname,qtypes⟩ k).length ((brT ⟨pname,types⟩ ⟨qname,qtypes⟩ k).map Value.string)):=aBI HO.out (aA2 w0 _);have K7:=heap_alloc_new w0 (.cells #[.string (tth types k).name,.string (tth types k).key,.slice fa (tth types k).fields.length fc] 96);have hs4:(w0.alloc (.cells #[.string (tth types k).name,.string (tth types k).key,.slice fa (tth types k).fields.length fc] 96)).heap.size=w0.heap.size+1:=by simp
   go_wp2_with fail
   refine(hF _ hT4 (tth types k).name).mono ?_;rintro e w3 ⟨tn,tk,oa,ol,oc,rfl,hb3,hto⟩;rw[hs4] at hb3;have z3:=hb3.size;rw[hs4] at z3;have hT5:=(hT4.trans (hb3.mono (by omega))).alloc (by omega) (.cells #[.string tn,.string tk,.slice oa ol oc] 96)
   have HO5:Hid ((w3.alloc (.cells #[.string tn,.string tk,.slice oa ol oc] 96)).ownsRow (w.heap.size+1+1) 9 1 v (brT ⟨pname,types⟩ ⟨qname,qtypes⟩ k).length ((brT ⟨pname,types⟩ ⟨qname,qtypes⟩ k).map Value.string)):=aBI (aBI HO4.out (by rw[hs4];exact hb3)) (aA2 w3 _)
   have K75:=(Below.heap_alloc w3 (.cells #[.string tn,.string tk,.slice oa ol oc] 96) w0.heap.size (by omega)).trans ((hb3.block w0.heap.size (by omega)).trans K7)
   have K85:=heap_alloc_new w3 (.cells #[.string tn,.string tk,.slice oa ol oc] 96);have HAP:Hid (aSF v w0.heap.size w3.heap.size):=by
    constructor
    ·intro e;have:=aDW HO.out _ e;omega
    ·intro e;have:=aDW HO.out _ e;omega
   have hot:=hto.under ((aA2 w3 (.cells #[.string tn,.string tk,.slice oa ol oc] 96)).mono (by have:=hBW w0 hT3;omega))
   have hs5:(w3.alloc (.cells #[.string tn,.string tk,.slice oa ol oc] 96)).heap.size=w3.heap.size+1:=by simp
   obtain⟨-,-,-,-,hw5,-⟩:=PC _ hT5;clear HO HO4 hT4 K7 hto hb3 p0 p1 q0 q1 p40 p41 q40 q41 hw4 hz4 c0 c1 c2;obtain⟨t70,-⟩:=aA1 K75 2 (by simp)
   simp only[List.getElem_toArray,List.getElem_cons_succ,List.getElem_cons_zero] at t70;go_wp2_with fail
   have HL1:Hid (∀j,j<=(tth types k).fields.length->(brT ⟨pname,types⟩ ⟨qname,qtypes⟩ k++brF (tth types k) (aA5 ⟨qname,qtypes⟩ (tth types k).name) j).length<=1048576):=fun j hj=>by
    have h1:=aJJ ⟨pname,types⟩ ⟨qname,qtypes⟩ k;have h2:=aD8 types (k+1) _ hlt;rw[aB8] at h2;have h3:szP ⟨pname,types⟩=pname.size+(types.length+aB1 types types.length):=rfl;have h4:=aLJ (tth types k) (aA5 ⟨qname,qtypes⟩ (tth types k).name) j;have h5:szT (tth types k)=(tth types k).name.size+(tth types k).key.size+((tth types k).fields.length+aBE (tth types k).fields (tth types k).fields.length):=rfl;have h6:(brT ⟨pname,types⟩ ⟨qname,qtypes⟩ k).length<=aB1 types k:=h1;rw[List.length_append];omega
   have HL2:Hid (brT ⟨pname,types⟩ ⟨qname,qtypes⟩ (k+1)=brT ⟨pname,types⟩ ⟨qname,qtypes⟩ k++brF (tth types k) (aA5 ⟨qname,qtypes⟩ (tth types k).name) (tth types k).fields.length):=rfl;generalize brT ⟨pname,types⟩ ⟨qname,qtypes⟩ k=L0 at HO5 HL1 HL2;generalize aA5 ⟨qname,qtypes⟩ (tth types k).name=ot at hot HL1 HL2;go_loopw [5,37] (fun br i wr=>∃(j:Nat) (v:Value),j<=(tth types k).fields.length∧i=.int .i64 j∧v=br∧Hid (wr.ownsRow (w.heap.size+1+1) 9 1 v (L0++brF (tth types k) ot j).length ((L0++brF (tth types k) ot j).map Value.string))∧Hid (aSF v w0.heap.size w3.heap.size)∧Hid (wr.heap[w0.heap.size]?=some (.cells #[.string (tth types k).name,.string (tth types k).key,.slice fa (tth types k).fields.length fc] 96 (0,0))∧wr.heap[w3.heap.size]?=some (.cells #[.string tn,.string tk,.slice oa ol oc] 96 (0,0)))∧Below (w.heap.size+1+1) X wr∧w3.heap.size<wr.heap.size) (fun _ i _=>(tth types k).fields.length- (intOf i).toNat)
   case atStart=>exact⟨0,_,Nat.zero_le _,rfl,rfl,by simpa[brF] using HO5,HAP,⟨K75,K85⟩,hT5,by rw[hs5];omega⟩
   case round=>
    clear HO5 HAP K75 K85 hT5 t70 hs4 hs5;obtain⟨j,v,hj,rfl,rfl,HO,HAP,HK,hT6,z6⟩:=hrel;obtain⟨w6,rfl⟩:∃x,x=wr:=⟨wr,rfl⟩;obtain⟨-,-,-,-,hw6,hz6⟩:=PC w6 hT6;by_cases hjt:j<(tth types k).fields.length
    ·obtain⟨fb,foff,na,nc,rfl,hfr,hcf⟩:=hfs.at hB j hjt;obtain⟨g0,g1,g2,g3,g4,g5,g6,g7⟩:=hcf w6 hw6;have hji:(j:Int)<((tth types k).fields.length:Int):=by omega
     have bF:=aA2 w6 (.cells #[.string (fth (tth types k).fields j).name,.string (fth (tth types k).fields j).of,.bool (fth (tth types k).fields j).list,.bool (fth (tth types k).fields j).must,.bool (fth (tth types k).fields j).far,.bool (fth (tth types k).fields j).hidden,.bool (fth (tth types k).fields j).shared,.slice na (fth (tth types k).fields j).needs.length nc] 80);have sF:(w6.alloc (.cells #[.string (fth (tth types k).fields j).name,.string (fth (tth types k).fields j).of,.bool (fth (tth types k).fields j).list,.bool (fth (tth types k).fields j).must,.bool (fth (tth types k).fields j).far,.bool (fth (tth types k).fields j).hidden,.bool (fth (tth types k).fields j).shared,.slice na (fth (tth types k).fields j).needs.length nc] 80)).heap.size=w6.heap.size+1:=by simp
     have hTF:=hT6.alloc (by omega) (.cells #[.string (fth (tth types k).fields j).name,.string (fth (tth types k).fields j).of,.bool (fth (tth types k).fields j).list,.bool (fth (tth types k).fields j).must,.bool (fth (tth types k).fields j).far,.bool (fth (tth types k).fields j).hidden,.bool (fth (tth types k).fields j).shared,.slice na (fth (tth types k).fields j).needs.length nc] 80)
     have KF:=heap_alloc_new w6 (.cells #[.string (fth (tth types k).fields j).name,.string (fth (tth types k).fields j).of,.bool (fth (tth types k).fields j).list,.bool (fth (tth types k).fields j).must,.bool (fth (tth types k).fields j).far,.bool (fth (tth types k).fields j).hidden,.bool (fth (tth types k).fields j).shared,.slice na (fth (tth types k).fields j).needs.length nc] 80);have HOF:Hid ((w6.alloc (.cells #[.string (fth (tth types k).fields j).name,.string (fth (tth types k).fields j).of,.bool (fth (tth types k).fields j).list,.bool (fth (tth types k).fields j).must,.bool (fth (tth types k).fields j).far,.bool (fth (tth types k).fields j).hidden,.bool (fth (tth types k).fields j).shared,.slice na (fth (tth types k).fields j).needs.length nc] 80)).ownsRow (w.heap.size+1+1) 9 1 v (L0++brF (tth types k) ot j).length ((L0++brF (tth types k) ot j).map Value.string)):=aBI HO.out bF;have KF7:=(bF.block _ (by omega)).trans HK.out.1
     have KF8:=(bF.block _ (by omega)).trans HK.out.2
     have HB1:Hid (brF (tth types k) ot (j+1)=brF (tth types k) ot j++(if(!(fth (tth types k).fields j).hidden&&!aH2 (fth (tth types k).fields j) ot)=true then[aF4 (tth types k) j] else[])):=rfl
     obtain⟨-,-,-,-,hwF,-⟩:=PC _ hTF;have hBF:=hBW _ hTF;clear hcf bF HO HK;cases yh:(fth (tth types k).fields j).hidden
     rotate_left
     ·rw[yh] at g5;have HB2:Hid (brF (tth types k) ot (j+1)=brF (tth types k) ot j):=by show _=_;rw[HB1.out,yh];simp
      rw[yh] at HOF KF7 KF8 hTF sF;go_wp2_with fail
      go_roundw
      case rel=>exact⟨j+1,v,by omega,by go_num,rfl,by rw[HB2.out];exact HOF,HAP,⟨KF7,KF8⟩,hTF,by rw[sF];omega⟩
      case measure=>simp[intOf];omega
     rw[yh] at g5 HOF KF7 KF8 KF hTF sF hfr hwF hBF;have hst:=aIC (fth (tth types k).fields j) ot (w6.alloc (.cells #[.string (fth (tth types k).fields j).name,.string (fth (tth types k).fields j).of,.bool (fth (tth types k).fields j).list,.bool (fth (tth types k).fields j).must,.bool (fth (tth types k).fields j).far,.bool false,.bool (fth (tth types k).fields j).shared,.slice na (fth (tth types k).fields j).needs.length nc] 80)) B _ _ (hfr.under (hwF.mono hB)) (hot.mono fun k hk=>(hwF.block k (by omega)).trans (hw5.block k (by omega)).symm) hBF
     obtain⟨f0,-⟩:=aA1 KF 0 (by simp)
     obtain⟨f1,-⟩:=aA1 KF 1 (by simp)
     obtain⟨f2,-⟩:=aA1 KF 2 (by simp)
     obtain⟨f3,-⟩:=aA1 KF 3 (by simp)
     obtain⟨f4,-⟩:=aA1 KF 4 (by simp)
     obtain⟨f5,-⟩:=aA1 KF 5 (by simp)
     obtain⟨f6,-⟩:=aA1 KF 6 (by simp)
     obtain⟨f7,-⟩:=aA1 KF 7 (by simp)
     obtain⟨o0,-⟩:=aA1 KF8 0 (by simp)
     obtain⟨o1,-⟩:=aA1 KF8 1 (by simp)
     obtain⟨o2,-⟩:=aA1 KF8 2 (by simp)
     simp only[List.getElem_toArray,List.getElem_cons_succ,List.getElem_cons_zero] at f0 f1 f2 f3 f4 f5 f6 f7 o0 o1 o2;go_wp2_with fail
     clear f0 f1 f2 f3 f4 f5 f6 f7 o0 o1 o2;refine hst.mono ?_;rintro e w7 ⟨rfl,hb7⟩;have z7:=hb7.size;rw[sF] at z7;have hT7:=hTF.trans (hb7.mono (by rw[sF];omega))
     obtain⟨-,-,-,-,hw7,hz7⟩:=PC w7 hT7;have HO7:Hid (w7.ownsRow (w.heap.size+1+1) 9 1 v (L0++brF (tth types k) ot j).length ((L0++brF (tth types k) ot j).map Value.string)):=aBI HOF.out hb7;have K77:=(hb7.block _ (by rw[sF];omega)).trans KF7
     have K78:=(hb7.block _ (by rw[sF];omega)).trans KF8
     have K7F:=(hb7.block _ (by rw[sF];omega)).trans KF
     clear hst HOF KF7 KF8 KF hb7 hTF hwF hBF g0 g1 g2 g3 g4 g5 g6 g7;cases ys:aH2 (fth (tth types k).fields j) ot
     rotate_left
     ·have HB2:Hid (brF (tth types k) ot (j+1)=brF (tth types k) ot j):=by show _=_;rw[HB1.out,ys];simp
      go_wp2_with fail
      go_roundw
      case rel=>exact⟨j+1,v,by omega,by go_num,rfl,by rw[HB2.out];exact HO7,HAP,⟨K77,K78⟩,hT7,by omega⟩
      case measure=>simp[intOf];omega
     have HB2:Hid (brF (tth types k) ot (j+1)=brF (tth types k) ot j++[(aF4 (tth types k) j)]):=by show _=_;rw[HB1.out,yh,ys];rfl
     have hlen:=HL1.out j hj;have hbt:=HBT.out k j;have hbs:(tth types k).name.size+(fth (tth types k).fields j).name.size+1<=9223372036854775807:=by
      have h:(aF4 (tth types k) j).size=(tth types k).name.size+1+(fth (tth types k).fields j).name.size:=by rw[aF4,ByteArray.size_append,ByteArray.size_append];rfl
      omega
     have hFT:=aL3 (tth types k).name (fth (tth types k).fields j).name w7 hbs;have HBE:Hid ((tth types k).name++⟨#[46]⟩++(fth (tth types k).fields j).name=(aF4 (tth types k) j)):=rfl;rw[HBE.out] at hFT;obtain⟨n0,-⟩:=aA1 K77 0 (by simp)
     obtain⟨m0,-⟩:=aA1 K7F 0 (by simp)
     simp only[List.getElem_toArray,List.getElem_cons_succ,List.getElem_cons_zero] at n0 m0;obtain⟨i0,hi,hz0',hz1',hz2'⟩:=info_parts aMV;have HOS:Hid ((w7.alloc (.cells #[.string (aF4 (tth types k) j)] 9)).ownsRow (w.heap.size+1+1) 9 1 v (L0++brF (tth types k) ot j).length ((L0++brF (tth types k) ot j).map Value.string)):=aBI HO7.out (aA2 w7 _);have sS:(w7.alloc (.cells #[.string (aF4 (tth types k) j)] 9)).heap.size=w7.heap.size+1:=by simp
     go_wp2_with fail
     refine hFT.mono ?_;rintro e w' ⟨rfl,rfl⟩;generalize (aF4 (tth types k) j)=bt at*;go_wp2_with (at_builtin;refine wpList_append_lies _ rfl (.tmp 50) (.tmp 56) 33 rfl (w.heap.size+1+1) 9 i0 (.string ByteArray.empty) 1 16 Tryz.underlying33 hi hz0' hz1' hz2' rfl (by decide) v (L0++brF (tth types k) ot j).length ((L0++brF (tth types k) ot j).map Value.string) rfl HOS.out ⟨w7.heap.size,0,none⟩ 1 1 [.string bt] rfl rfl (World.news_of_block (heap_alloc_new w7 _)) (by intro u hu;simp at hu;subst hu;rfl) (by omega) (by unfold maxLen;omega) (by omega) (by rw[sS];omega) (w7.heap.size+1) (by simp) ?_)
     intro g cap w8 hown hgrow hat hlt8;have hT8:=Below.grown (hT7.alloc (by omega) _) hgrow (by rw[sS];omega) (fun k hk=>(aDW HOS.out k hk).1)
     have z8:=hgrow.size;rw[sS] at z8;have K87:=(hgrow.block _ (by rw[sS];omega) (fun e=>HAP.out.1 e.symm)).trans ((Below.heap_alloc _ _ _ (by omega)).trans K77)
     have K88:=(hgrow.block _ (by rw[sS];omega) (fun e=>HAP.out.2 e.symm)).trans ((Below.heap_alloc _ _ _ (by omega)).trans K78)
     have HAP8:Hid (aSF (.slice (some ⟨g,0,none⟩) (L0.length+(brF (tth types k) ot j).length+1) cap) w0.heap.size w3.heap.size):=by
      rcases hat with h| h
      ·constructor
       ·intro e;exact HAP.out.1 (h.trans e)
       ·intro e;exact HAP.out.2 (h.trans e)
      ·constructor
       ·intro e;simp[Value.ownBlock] at e;omega
       ·intro e;simp[Value.ownBlock] at e;omega
     have HO8:Hid (w8.ownsRow (w.heap.size+1+1) 9 1 (.slice (some ⟨g,0,none⟩) (L0.length+(brF (tth types k) ot j).length+1) cap) (L0++brF (tth types k) ot (j+1)).length ((L0++brF (tth types k) ot (j+1)).map Value.string)):=by
      show w8.ownsRow _ _ _ _ _ _;have e1:(L0++brF (tth types k) ot (j+1)).length=L0.length+(brF (tth types k) ot j).length+1:=by rw[HB2.out];simp;omega
      have e2:(L0++brF (tth types k) ot (j+1)).map Value.string=List.map Value.string L0++(List.map Value.string (brF (tth types k) ot j)++[Value.string bt]):=by rw[HB2.out];simp
      rw[e1,e2];exact hown
     clear hown hgrow hat K77 K78 K7F HO7 HOS HAP hT7 n0 m0;go_wp2_with fail
     go_roundw
     case rel=>exact⟨j+1,_,by omega,by go_num,rfl,HO8,HAP8,⟨K87,K88⟩,hT8,by omega⟩
     case measure=>simp[intOf];omega
    ·have e:j=(tth types k).fields.length:=by omega
     go_wp2_with fail
     go_roundw
     case rel=>exact⟨k+1,v,by omega,by go_num,rfl,by rw[HL2.out,<-e];exact HO,hT6⟩
     case measure=>simp[intOf];omega
  ·have e:k=types.length:=by omega
   go_wp2_with fail
   go_ret
   rw[HA.out,<-e];exact aCA.own hw0 (by omega) HO.out (HS.out k) (HN.out k hk)
end Go.Proofs.YtcebpkeiaiiphaaGreatDoor
