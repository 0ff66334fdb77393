import Derived.Test.YtokmgbidmnanpaaGreatDoorQ38
import Derived.Test.YtokmgbidmnanpaaGreatDoorQ41
import Derived.Test.YtokmgbidmnanpaaGreatDoorQ44
import Derived.Test.YtokmgbidmnanpaaGreatDoorQ43
import Derived.Test.YtokmgbidmnanpaaGreatDoorQ23
set_option linter.unusedSimpArgs false
set_option linter.unusedVariables false
namespace Go.Proofs.YtokmgbidmnanpaaGreatDoor
open Go.RowKit Go.Maps
theorem aDB.partP{w:World}{B:Nat}{P:Nat→Prop}{ts:List T}{v:Value}(h:aDB w B P ts v)(hl:ts.length≤1000000000):PRep w (fun b=>P b∨(B≤b∧b<w.heap.size)) ⟨⟨#[97]⟩,ts⟩ (.agg #[.string ⟨#[97]⟩,v]):=by
 obtain⟨C,h1,h2⟩:=h
 have hr:∀i,i<ts.length→TRep w (fun b=>P b∨(B≤b∧b<w.heap.size)) (tth ts i) (.agg #[C i 0,C i 1,C i 2]):=fun i hi=>(h2 i hi).sub fun b hq=>hq.imp id fun x=>⟨x.1,x.2.1⟩
 have hA:∃ta tc,v=.slice ta ts.length tc∧ts.length≤tc∧Arr w (fun b=>P b∨(B≤b∧b<w.heap.size)) 3 ts.length ta C:=by
  obtain⟨hz,⟨rfl,h0⟩| ⟨g,cap,cur,rfl,hb,hg,hnc,hrest⟩⟩:=h1
  ·have hn:ts.length=0:=by simpa using h0
   rw[hn]
   exact⟨none,0,rfl,Nat.le_refl _,fun h=>absurd h (Nat.lt_irrefl _)⟩
  ·refine⟨_,_,rfl,hnc,fun _=>⟨g,0,rfl,?_,fun i hi j hj=>?_⟩⟩
   ·exact Or.inr (World.ownsRow.lt (w:=w) (base:=B) (e:=52) (size:=3) (n:=ts.length) (xs:=aEE C ts.length) ⟨hz,Or.inr ⟨g,cap,cur,rfl,hb,hg,hnc,hrest⟩⟩ g rfl)
   ·rw[Nat.zero_add,World.ownsRow.cellAt (w:=w) (base:=B) (e:=52) (size:=3) (n:=ts.length) (xs:=aEE C ts.length) ⟨hz,Or.inr ⟨g,cap,cur,rfl,hb,hg,hnc,hrest⟩⟩ (i*3+j) (by omega)]
    exact aGS C _ i j hi hj
 obtain⟨ta,tc,rfl,hc,hA⟩:=hA
 exact⟨ta,tc,rfl,⟨by show 56*ts.length≤_;omega,C,hA,hr⟩,hc,by show(1:Nat)≤maxLen;unfold maxLen;omega⟩
theorem aDB.part{w:World}{B:Nat}{P:Nat→Prop}{ts:List T}{v:Value}(h:aDB w B P ts v)(hP:∀b,P b→b<w.heap.size)(hl:ts.length≤1000000000):PRep w (·<w.heap.size) ⟨⟨#[97]⟩,ts⟩ (.agg #[.string ⟨#[97]⟩,v]):=
 (h.partP hl).sub fun b hq=>hq.elim (hP b) fun x=>x.2
theorem aDB.keepB{w w':World}{B:Nat}{P:Nat→Prop}{ts:List T}{v:Value}(h:aDB w B P ts v)(hk:∀b,(P b∨(B≤b∧b<w.heap.size))→w'.heap[b]?=w.heap[b]?)(hs:w.heap.size≤w'.heap.size):aDB w' B P ts v:=by
 obtain⟨C,h1,h2⟩:=h
 refine⟨C,aAT h1 fun j hj=>hk j (Or.inr (h1.lt j hj)),fun i hi=>((h2 i hi).mono fun b hq=>hk b (hq.elim Or.inl fun x=>Or.inr ⟨x.1,x.2.1⟩)).sub fun b hq=>?_⟩
 exact hq.elim Or.inl fun x=>Or.inr ⟨x.1,by omega,x.2.2⟩
theorem aDB.at{w:World}{B tc:Nat}{P:Nat→Prop}{ts:List T}{ta:Option Addr}(h:aDB w B P ts (.slice ta ts.length tc))(i:Nat)(hi:i<ts.length):
  ∃(g:Nat) (fa:Option Addr) (fc:Nat),ta=some ⟨g,0,none⟩∧B≤g∧g<w.heap.size∧w.cell? ⟨g,i*3,none⟩=some (.string (tth ts i).name)∧w.cell? ⟨g,i*3+1,none⟩=some (.string (tth ts i).key)∧w.cell? ⟨g,i*3+2,none⟩=some (.slice fa (tth ts i).fields.length fc)∧
   (∀j,w.frozen? ⟨g,j,none⟩=false)∧TRep w (Off P B w (.slice ta ts.length tc)) (tth ts i) (.agg #[.string (tth ts i).name,.string (tth ts i).key,.slice fa (tth ts i).fields.length fc]):=by
 obtain⟨C,h1,h2⟩:=h
 obtain⟨g,rfl⟩:∃g,ta=some ⟨g,0,none⟩:=by
  obtain⟨-,⟨e,h0⟩| ⟨g,cap,cur,e,-⟩⟩:=h1
  ·simp only[Value.slice.injEq] at e
   omega
  ·simp only[Value.slice.injEq] at e
   exact⟨g,e.1⟩
 have hr:=h2 i hi
 have hr':=hr
 obtain⟨fa,fc,e,-⟩:=hr
 rw[e] at hr'
 simp only[Value.agg.injEq,Array.mk.injEq,List.cons.injEq,and_true] at e
 obtain⟨e0,e1,e2⟩:=e
 have hc:∀j,j<3→w.cell? ⟨g,i*3+j,none⟩=some (C i j):=fun j hj=>(h1.cellAt (i*3+j) (by omega)).trans (aGS C _ i j hi hj)
 exact⟨g,fa,fc,rfl,(h1.lt g rfl).1,(h1.lt g rfl).2,by rw[←e0];exact hc 0 (by omega),by rw[←e1];exact hc 1 (by omega),by rw[←e2];exact hc 2 (by omega),fun j=>h1.frozenAt j,hr'⟩
def aGE(X:World)(A B:Nat)(ts:List T)(W:World):Prop:=∃(ta:Option Addr) (tc:Nat),W.heap[X.heap.size]?=some (.cells #[.string ⟨#[97]⟩,.slice ta ts.length tc] 43 (0,0))∧aDB W (X.heap.size+1) (fun b=>A≤b∧b<B) ts (.slice ta ts.length tc)∧Below X.heap.size X W∧X.heap.size+1≤W.heap.size
theorem aGE.keep{X W W':World}{A B:Nat}{ts:List T}(h:aGE X A B ts W)(hB:B≤X.heap.size)(hb:Below W.heap.size W W'):aGE X A B ts W':=by
 obtain⟨ta,tc,h1,h2,h3,h4⟩:=h
 exact⟨ta,tc,(hb.block _ (by omega)).trans h1,h2.keep (fun b hq=>by have:b<B:=hq.2;omega) hb,h3.trans (hb.mono (by omega)),Nat.le_trans h4 hb.size⟩
def aER(X:World)(A B:Nat)(ts:List T)(bt:Nat)(cs:Array Value)(W:World):Prop:=∃(ta:Option Addr) (tc:Nat),W.heap[X.heap.size]?=some (.cells #[.string ⟨#[97]⟩,.slice ta ts.length tc] 43 (0,0))∧aDB W (X.heap.size+1) (fun b=>A≤b∧b<B) ts (.slice ta ts.length tc)∧Below X.heap.size X W∧X.heap.size+1≤W.heap.size∧(Value.slice ta ts.length tc).ownBlock≠some bt∧W.heap[bt]?=some (.cells cs 52 (0,0))∧X.heap.size<bt∧bt<W.heap.size
theorem aER.st{X W:World}{A B bt:Nat}{ts:List T}{cs:Array Value}(h:aER X A B ts bt cs W):aGE X A B ts W:=by
 obtain⟨ta,tc,h1,h2,h3,h4,-⟩:=h
 exact⟨ta,tc,h1,h2,h3,h4⟩
theorem aER.keep{X W W':World}{A B bt:Nat}{ts:List T}{cs:Array Value}(h:aER X A B ts bt cs W)(hB:B≤X.heap.size)(hb:Below W.heap.size W W'):aER X A B ts bt cs W':=by
 obtain⟨ta,tc,h1,h2,h3,h4,h5,h6,h7,h8⟩:=h
 exact⟨ta,tc,(hb.block _ (by omega)).trans h1,h2.keep (fun b hq=>by have:b<B:=hq.2;omega) hb,h3.trans (hb.mono (by omega)),Nat.le_trans h4 hb.size,h5,(hb.block _ h8).trans h6,h7,Nat.lt_of_lt_of_le h8 hb.size⟩
theorem aGE.box{X W:World}{A B:Nat}{ts:List T}(h:aGE X A B ts W)(hB:B≤X.heap.size)(cs:Array Value):aER X A B ts W.heap.size cs (W.alloc (.cells cs 52)):=by
 obtain⟨ta,tc,h1,h2,h3,h4⟩:=h
 obtain⟨C,ho,hr⟩:=h2
 refine⟨ta,tc,?_,?_,?_,?_,fun e=>absurd (ho.lt _ e).2 (Nat.lt_irrefl _),aA3 _ _ rfl,h4,by simp⟩
 ·exact((aA2 W _).block _ h4).trans h1
 ·exact aDB.keep ⟨C,ho,hr⟩ (fun b hq=>by have:b<B:=hq.2;omega) (aA2 W _)
 ·exact h3.trans ((aA2 W _).mono (by omega))
 ·simp;omega
theorem aER.put{X W:World}{A B bt g tc k:Nat}{ts:List T}{cs:Array Value}(hbox:W.heap[X.heap.size]?=some (.cells #[.string ⟨#[97]⟩,.slice (some ⟨g,0,none⟩) ts.length tc] 43 (0,0)))(hrow:aDB W (X.heap.size+1) (fun b=>A≤b∧b<B) ts (.slice (some ⟨g,0,none⟩) ts.length tc))(hbX:Below X.heap.size X W)(hs:X.heap.size+1≤W.heap.size)(hne:g≠bt)(htb:W.heap[bt]?=some (.cells cs 52 (0,0)))(hxb:X.heap.size<bt)(hbl:bt<W.heap.size)(hB:B≤X.heap.size)(hg:X.heap.size+1≤g)(hk:k<ts.length)(t:T)(d0 d1 d2:Value)(ht:TRep W (Off (fun b=>A≤b∧b<B) (X.heap.size+1) W (.slice (some ⟨g,0,none⟩) ts.length tc)) t (.agg #[d0,d1,d2])):
  aER X A B (ts.set k t) bt cs (((W.setCell ⟨g,k*3,none⟩ d0).setCell ⟨g,k*3+1,none⟩ d1).setCell ⟨g,k*3+2,none⟩ d2):=by
 have hbk:∀b,b≠g→(((W.setCell ⟨g,k*3,none⟩ d0).setCell ⟨g,k*3+1,none⟩ d1).setCell ⟨g,k*3+2,none⟩ d2).heap[b]?=W.heap[b]?:=fun b hb=>((Below.heap_setCell _ _ _ _ hb).trans (Below.heap_setCell _ _ _ _ hb)).trans (Below.heap_setCell _ _ _ _ hb)
 have hsz:(((W.setCell ⟨g,k*3,none⟩ d0).setCell ⟨g,k*3+1,none⟩ d1).setCell ⟨g,k*3+2,none⟩ d2).heap.size=W.heap.size:=by simp
 have hT:=hrow.put (k:=k) rfl hk (fun b hq=>by have:b<B:=hq.2;omega) t d0 d1 d2 ht
 refine⟨some ⟨g,0,none⟩,tc,?_,?_,?_,by rw[hsz];exact hs,?_,?_,hxb,by rw[hsz];exact hbl⟩
 ·rw[List.length_set];exact(hbk _ (by omega)).trans hbox
 ·rw[List.length_set];exact hT
 ·have hgx:X.heap.size≤g:=by omega
  exact((hbX.setCell (p:=⟨g,k*3,none⟩) hgx _).setCell (p:=⟨g,k*3+1,none⟩) hgx _).setCell (p:=⟨g,k*3+2,none⟩) hgx _
 ·intro e;exact hne (Option.some.inj e)
 ·exact(hbk _ (Ne.symm hne)).trans htb
theorem aCR.low{w:World}{A B:Nat}{ps:List Pt}{a:Option Addr}(h:aCR w (fun b=>A≤b∧b<B) ps a):aCR w (·<B) ps a:=h.sub fun _ hb=>hb.2
theorem aCR.underA{w w':World}{A B:Nat}{ps:List Pt}{a:Option Addr}(h:aCR w (fun b=>A≤b∧b<B) ps a)(hb:Below B w w'):aCR w' (fun b=>A≤b∧b<B) ps a:=h.mono fun k hk=>hb.block k hk.2
theorem aEO.atA{w:World}{A B:Nat}{ts:List T}{ta:Option Addr}(h:aEO w (fun b=>A≤b∧b<B) ts ta)(hB:B≤w.heap.size)(k:Nat)(hk:k<ts.length):∃(b off:Nat) (fa:Option Addr) (fc:Nat),ta=some ⟨b,off,none⟩∧
  TRep w (fun b=>A≤b∧b<B) (tth ts k) (.agg #[.string (tth ts k).name,.string (tth ts k).key,.slice fa (tth ts k).fields.length fc])∧
  ∀W,Below w.heap.size w W→W.cell? ⟨b,off+k*3,none⟩=some (.string (tth ts k).name)∧W.cell? ⟨b,off+k*3+1,none⟩=some (.string (tth ts k).key)∧W.cell? ⟨b,off+k*3+2,none⟩=some (.slice fa (tth ts k).fields.length fc):=by
 obtain⟨-,C,hA,hr⟩:=h
 obtain⟨b,off,rfl,⟨-,hbB⟩,hc⟩:=hA (by omega)
 have hkt:=hr k hk
 obtain⟨fa,fc,e0,e1,e2,-⟩:=(hr k hk).parts
 rw[e0,e1,e2] at hkt
 refine⟨b,off,fa,fc,rfl,hkt,fun W hb=>?_⟩
 have hck:∀j,j<3→W.cell? ⟨b,off+k*3+j,none⟩=some (C k j):=fun j hj=>(hb.cell (p:=⟨b,off+k*3+j,none⟩) (by show b<_;omega)).trans (hc k hk j hj)
 have c0:W.cell? ⟨b,off+k*3,none⟩=some (C k 0):=hck 0 (by omega)
 rw[c0,hck 1 (by omega),hck 2 (by omega),e0,e1,e2]
 exact⟨rfl,rfl,rfl⟩
theorem aCR.atA{w:World}{A B:Nat}{ps:List Pt}{a:Option Addr}(h:aCR w (fun b=>A≤b∧b<B) ps a)(i:Nat)(hi:i<ps.length):
  ∃(b off:Nat) (ta:Option Addr) (tc:Nat),a=some ⟨b,off,none⟩∧b<B∧w.cell? ⟨b,off+i*2,none⟩=some (.string (pth ps i).name)∧w.cell? ⟨b,off+i*2+1,none⟩=some (.slice ta (pth ps i).types.length tc)∧PRep w (fun b=>A≤b∧b<B) (pth ps i) (.agg #[.string (pth ps i).name,.slice ta (pth ps i).types.length tc]):=by
 obtain⟨-,C,hA,hr⟩:=h
 obtain⟨b,off,rfl,hb,hc⟩:=hA (by omega)
 have hp:=hr i hi
 obtain⟨ta,tc,e,-⟩:=hp
 simp only[Value.agg.injEq,Array.mk.injEq,List.cons.injEq,and_true] at e
 refine⟨b,off,ta,tc,rfl,hb.2,?_,?_,?_⟩
 ·rw[←e.1];exact hc i hi 0 (by omega)
 ·rw[←e.2];exact hc i hi 1 (by omega)
 ·rw[←e.1,←e.2];exact hr i hi
theorem aC6.atF{w:World}{A B:Nat}{fs:List F}{a:Option Addr}(h:aC6 w (fun b=>A≤b∧b<B) fs a)(n:Nat)(hn:n<fs.length):
  ∃(b off:Nat) (na:Option Addr) (nc:Nat),a=some ⟨b,off,none⟩∧b<B∧(∀j,j<8→w.cell? ⟨b,off+n*8+j,none⟩=some ([Value.string (fth fs n).name,.string (fth fs n).of,.bool (fth fs n).list,.bool (fth fs n).must,.bool (fth fs n).far,.bool (fth fs n).hidden,.bool (fth fs n).shared,.slice na (fth fs n).needs.length nc].getD j undef))∧FRep w (fun b=>A≤b∧b<B) (fth fs n) (fval (fth fs n) na nc):=by
 obtain⟨-,C,hA,hr⟩:=h
 obtain⟨b,off,rfl,hb,hc⟩:=hA (by omega)
 have hr':=hr n hn
 obtain⟨na,nc,e,-⟩:=hr n hn
 rw[e] at hr'
 refine⟨b,off,na,nc,rfl,hb.2,fun j hj=>?_,hr'⟩
 rw[hc n hn j hj]
 simp only[Value.agg.injEq,Array.mk.injEq,List.cons.injEq,and_true] at e
 obtain⟨e0,e1,e2,e3,e4,e5,e6,e7⟩:=e
 rcases j with _| _| _| _| _| _| _| _| j
 ·simp[e0]
 ·simp[e1]
 ·simp[e2]
 ·simp[e3]
 ·simp[e4]
 ·simp[e5]
 ·simp[e6]
 ·simp[e7]
 ·omega
theorem aPJ{w:World}{P:Nat→Prop}{p:Pt}{v:Value}(h:PRep w P p v)(nm:ByteArray):(aAY p nm).key.size≤maxLen:=by
 obtain⟨ta,tc,-,⟨-,C,-,hr⟩,-⟩:=h
 have hz:∀i,(tth p.types i).key.size≤maxLen:=fun i=>by
  by_cases hi:i<p.types.length
  ·obtain⟨_,_,-,-,-,-,hk⟩:=hr i hi
   exact hk
  ·have:tth p.types i=T.zero:=by simp[tth,List.getD_eq_getElem?_getD,List.getElem?_eq_none (Nat.le_of_not_lt hi)]
   rw[this]
   exact Nat.zero_le _
 unfold aAY
 split
 ·exact hz _
 ·exact Nat.zero_le _
theorem aS5{w:World}{P:Nat→Prop}{ps:List Pt}{a:Option Addr}(h:aCR w P ps a)(nm:ByteArray):(keyM ps nm).size≤maxLen:=by
 unfold keyM
 split
 ·rename_i hx
  have hk:aQE ps nm=aAI (fun i=>!(aAY (pth ps i) nm).key.toList.isEmpty) ps.length:=rfl
  rcases aAB (fun i=>!(aAY (pth ps i) nm).key.toList.isEmpty) ps.length with⟨h2,-⟩| ⟨g,h2,hg,-,-⟩
  ·rw[hk,h2] at hx;omega
  ·rw[hk,h2]
   obtain⟨-,C,-,hr⟩:=h
   exact aPJ (hr g hg) nm
 ·exact Nat.zero_le _
theorem aUI:(Tryz.prog.info? 52).map (fun i=>(i.zero.map fun z=>z.cells.size,i.size,i.bytes))=some (some 3,3,56):=by kernel_rfl
theorem aOJ:∃(i:TypeInfo) (z:Value),Tryz.prog.info? 52=some i∧i.zero=some z∧i.size=3∧i.bytes=56∧z.cells.size=3:=by
 have h:=aUI
 cases hi:Tryz.prog.info? 52 with
 |none=>rw[hi] at h;cases h
 |some i=>
  rw[hi] at h
  simp only[Option.map_some,Option.some.injEq,Prod.mk.injEq] at h
  obtain⟨h1,h2,h3⟩:=h
  cases hz:i.zero with
  |none=>rw[hz] at h1;cases h1
  |some z=>
   rw[hz] at h1
   simp only[Option.map_some,Option.some.injEq] at h1
   exact⟨i,z,rfl,hz,h2,h3,h1⟩
theorem aER.push{X W W':World}{A B bt gF capF tc:Nat}{ts:List T}{ta:Option Addr}{cs:Array Value}{C:Nat→Nat→Value}(hbox:W.heap[X.heap.size]?=some (.cells #[.string ⟨#[97]⟩,.slice ta ts.length tc] 43 (0,0)))(ho:W.ownsRow (X.heap.size+1) 52 3 (.slice ta ts.length tc) ts.length (aEE C ts.length))(h2:∀i,i<ts.length→TRep W (Off (fun b=>A≤b∧b<B) (X.heap.size+1) W (.slice ta ts.length tc)) (tth ts i) (.agg #[C i 0,C i 1,C i 2]))
  (hbX:Below X.heap.size X W) (hs:X.heap.size+1≤W.heap.size) (hne:(Value.slice ta ts.length tc).ownBlock≠some bt) (htb:W.heap[bt]?=some (.cells cs 52 (0,0))) (hxb:X.heap.size<bt) (hbl:bt<W.heap.size) (hB:B≤X.heap.size) (t:T) (d0 d1 d2:Value) (ht:TRep W (Off (fun b=>A≤b∧b<B) (X.heap.size+1) W (.slice ta ts.length tc)) t (.agg #[d0,d1,d2]))
  (oF:W'.ownsRow (X.heap.size+1) 52 3 (.slice (some ⟨gF,0,none⟩) (ts.length+1) capF) (ts.length+1) (aEE C ts.length++[d0,d1,d2])) (hg:W.grownBy W' (Value.slice ta ts.length tc).ownBlock) (hob:(Value.slice (some ⟨gF,0,none⟩) (ts.length+1) capF).ownBlock=(Value.slice ta ts.length tc).ownBlock∨(Value.slice (some ⟨gF,0,none⟩) (ts.length+1) capF).ownBlock=some W.heap.size):
  aER X A B (ts++[t]) bt cs (W'.setCell ⟨X.heap.size,1,none⟩ (.slice (some ⟨gF,0,none⟩) (ts.length+1) capF)):=by
 have hlt:=ho.lt
 have hk:∀b,b<W.heap.size→(Value.slice ta ts.length tc).ownBlock≠some b→W'.heap[b]?=W.heap[b]?:=fun b hb hn=>hg.block b hb (fun e=>hn e.symm)
 have hT:=aDB.push (w':=W') (v':=.slice (some ⟨gF,0,none⟩) (ts.length+1) capF) h2 (fun b hq=>by have:b<B:=hq.2;omega) (fun b hq=>by have:b<B:=hq.2;omega) t d0 d1 d2 ht oF hk hg.size (fun b e=>by
  rcases hob with h| h
  ·exact Or.inl (h.symm.trans e)
  ·rw[h] at e
   exact Or.inr (Nat.le_of_eq (Option.some.inj e))) (fun b e=>(hlt b e).1)
 have hx0:W'.heap[X.heap.size]?=some (.cells #[.string ⟨#[97]⟩,.slice ta ts.length tc] 43 (0,0)):=(hk _ (by omega) (fun e=>by have:=(hlt _ e).1;omega)).trans hbox
 have hl1:(ts++[t]).length=ts.length+1:=by simp
 refine⟨some ⟨gF,0,none⟩,capF,?_,?_,?_,?_,?_,?_,hxb,?_⟩
 ·rw[hl1]
  exact aA9 hx0 1 _
 ·rw[hl1]
  refine hT.keepB (fun b hq=>Below.heap_setCell _ _ _ _ ?_) (by simp)
  rcases hq with h| h
  ·have:b<B:=h.2
   show b≠X.heap.size
   omega
  ·show b≠X.heap.size
   omega
 ·exact(hbX.grown hg (by omega) (fun k e=>by have:=(hlt k e).1;omega)).setCell (Nat.le_refl _) _
 ·have:=hg.size
  simp
  omega
 ·intro e
  rcases hob with h| h
  ·exact hne (h.symm.trans e)
  ·have e2:some W.heap.size=some bt:=h.symm.trans e
   have:=Option.some.inj e2
   omega
 ·refine(Below.heap_setCell _ _ _ _ ?_).trans ((hk bt hbl hne).trans htb)
  show bt≠X.heap.size
  omega
 ·have:=hg.size
  simp
  omega
end Go.Proofs.YtokmgbidmnanpaaGreatDoor
namespace Go.Proofs.YtokmgbidmnanpaaGreatDoor
open Go.RowKit Go.Maps
theorem aOZ(p:Pt):∀n k i,k≤i→i<k+n→aAG p i≠0→aFT p k n≤i
 |0,k,i,h1,h2,h3=>by omega
 |n+1,k,i,h1,h2,h3=>by
  rw[aFT]
  by_cases e:aAG p k=0
  ·rw[if_pos e]
   have:k≠i:=fun h=>h3 (h▸e)
   exact aOZ p n (k+1) i (by omega) (by omega) h3
  ·rw[if_neg e];exact h1
theorem aQS{p:Pt}(h:okP p=true){i:Nat}(hi:i<p.types.length):aAG p i=0:=by
 by_cases e:aAG p i=0
 ·exact e
 ·have:=aOZ p p.types.length 0 i (Nat.zero_le _) (by omega) e
  have h4:¬badT p<p.types.length:=fun hc=>by simp[okP,hc] at h
  unfold badT at h4
  omega
theorem aT8{p:Pt}(h:okP p=true):0<p.types.length∧p.types.length≤5:=by
 simp[okP,aB4] at h
 omega
theorem aKL{p:Pt}{i:Nat}(h:aAG p i=0):0<(tth p.types i).fields.length∧(tth p.types i).fields.length≤8∧aDK p.types i (tth p.types i)=false:=by
 unfold aAG at h
 by_cases a:aAW (tth p.types i)=false
 ·rw[if_pos a] at h;omega
 rw[if_neg a] at h
 by_cases b:aDK p.types i (tth p.types i)=true
 ·rw[if_pos b] at h;omega
 simp[aAW] at a
 exact⟨by omega,by omega,by simpa using b⟩
end Go.Proofs.YtokmgbidmnanpaaGreatDoor
namespace Go.Proofs.YtokmgbidmnanpaaGreatDoor
open Go.RowKit Go.Shelf Go.Maps
attribute [local go_sem] Oper.semAt_some aHK
theorem aLK(p:Pt):∀(f:Nat) (ah:Way) (nm:ByteArray) (ks:List Se) (n:Nat) (x:Way× Int),chkM p f ah nm ks n=some x→x.1.length≤ah.length+f
 |0,ah,nm,ks,n,x,h=>by simp[chkM] at h
 |f+1,ah,nm,ks,0,x,h=>by simp[chkM] at h
 |f+1,ah,nm,ks,n+1,x,h=>by
  rw[chkM] at h
  cases hc:chkM p (f+1) ah nm ks n with
  |some y=>
   rw[hc] at h
   simp only[Option.some.injEq] at h
   subst h
   exact aLK p (f+1) ah nm ks n y hc
  |none=>
   rw[hc] at h
   simp only at h
   split at h
   ·simp only[Option.some.injEq] at h
    rw[←h];simp
   ·have:=aLK p f _ _ _ _ x h
    simp at this;omega
theorem aGJ(w:World)(P:Nat→Prop)(a:Option Addr):Strs w P [] a:=⟨fun h=>absurd rfl h,fun i=>by simp[nth,maxLen],by simp⟩
theorem aU7{w:World}{base g cap:Nat}{way:Way}(h:w.ownsRow base 9 1 (.slice (some ⟨g,0,none⟩) way.length cap) way.length (way.map Value.string))(hs:∀i,(nth way i).size≤maxLen)(hl:way.length≤maxLen)(hlt:g<w.heap.size):
  Strs w (fun b=>base≤b∧b<w.heap.size) way (some ⟨g,0,none⟩):=by
 have hb:base≤g:=by
  rcases h.2 with⟨h',_⟩| ⟨g',cap',cur,h',hb,_,hn,_⟩
  ·simp at h'
  ·simp only[Value.slice.injEq,Option.some.injEq,Addr.mk.injEq,and_true,true_and] at h'
   obtain⟨rfl,rfl⟩:=h'
   exact hb
 refine⟨fun _=>⟨g,0,rfl,⟨hb,hlt⟩,fun i hi=>?_⟩,hs,hl⟩
 have:=h.cellAt i (by omega)
 rw[Nat.zero_add,this,List.getElem?_map]
 simp[nth,List.getD_eq_getElem?_getD,hi]
set_option maxRecDepth 20000 in
set_option maxHeartbeats 1600000 in
theorem aEZ(f:Nat)(p:Pt)(ks:List Se)(ka:Option Addr)(kc:Nat)(v:Value)(w:World)(hf:FitS f ks)(hR:aAA w (·<w.heap.size) ks ka)(hfew:f≤1000000000)(hP:PRep w (·<w.heap.size) p v)(hz:szP p≤1048576):
  Calls Tryz.prog 33 #[v,.slice ka ks.length kc] w fun e w'=>FltM w (aBM f p ks) e w':=by
 obtain⟨i9,hi9,hy0,hy1,hy2⟩:=info_parts aJW
 have hP':=hP
 obtain⟨ta,tc,rfl,-,-,-⟩:=hP
 have HR:=aA0 hR
 have HP:=aA0 hP'
 have h72:=hR.1
 clear hR hP'
 have bX:=aA5 w (.cells #[.string p.name,.slice ta p.types.length tc] 43) (.cells #[.slice none 0 0,.int .i64 0] 48)
 have zX:((w.alloc (.cells #[.string p.name,.slice ta p.types.length tc] 43)).alloc (.cells #[.slice none 0 0,.int .i64 0] 48)).heap.size=w.heap.size+1+1:=by simp
 have nP:((w.alloc (.cells #[.string p.name,.slice ta p.types.length tc] 43)).alloc (.cells #[.slice none 0 0,.int .i64 0] 48)).heap[w.heap.size]?=some (.cells #[.string p.name,.slice ta p.types.length tc] 43 (0,0)):=by
  rw[(aA2 _ _).block _ (by simp)]
  exact aA3 _ _ rfl
 have nR:((w.alloc (.cells #[.string p.name,.slice ta p.types.length tc] 43)).alloc (.cells #[.slice none 0 0,.int .i64 0] 48)).heap[w.heap.size+1]?=some (.cells #[.slice none 0 0,.int .i64 0] 48 (0,0)):=aA3 _ _ (by simp)
 have HC:=aA0 (fun W (hW:Below w.heap.size w W)=>aEF p W w.heap.size _ (HP.out.under hW) hW.size hz)
 have HO:=aA0 (fun W (hW:Below w.heap.size w W)=>aKB f ks W w.heap.size ka kc hf (HR.out.under hW) hW.size)
 have H3:Hid (∀W,Below w.heap.size w W→∀aa,Calls Tryz.prog 70 #[.agg #[.string p.name,.slice ta p.types.length tc],.string (⟨#[113,117,101,114,121]⟩:ByteArray),.slice ka ks.length kc,.slice aa 0 0] W fun e w'=>FltM W (chkM p f [] qry ks ks.length) e w'):=aA0 fun W hW aa=>
  aNX p _ _ f qry [] ks W aa 0 ka kc hf ((HR.out.under hW).sub fun b hb=>Nat.lt_of_lt_of_le hb hW.size) (aGJ _ _ _) (by simp;omega) ((HP.out.under hW).sub fun b hb=>Nat.lt_of_lt_of_le hb hW.size)
 have HKO:=aA0 (aFA p)
 generalize aDC p=pf at*
 obtain⟨pa,pc⟩:=pf
 simp only at HC HKO
 cases ho:okP p
 ·have HE:Hid (aBM f p ks=some ([],1)):=aA0 (by rw[aBM,ho];rfl)
  have hx0:¬pc=0:=fun e=>by have:=HKO.out.1 e;rw[ho] at this;cases this
  have hx1:(pc==0)=false:=by simpa using hx0
  have hx2:(pc !=0)=true:=by simpa using hx0
  go_enter Tryz.func33,Tryz.ntmps33
  go_wp2_with (go_at_call 40;refine(HC.out _ bX).mono ?_;rintro e w1 ⟨rfl,hb1⟩;have b01:=bX.trans (hb1.mono (by omega));have nR1:=fun o=>((aA2 w1 o).block _ (by have:=hb1.size;omega)).trans ((hb1.block _ (by omega)).trans nR);have r0:=fun o=>(aA1 (nR1 o) 0 (by simp)).1;have f0:=fun o=>(aA1 (nR1 o) 0 (by simp)).2;have r1:=fun o=>(aA1 (nR1 o) 1 (by simp)).1;have f1:=fun o=>(aA1 (nR1 o) 1 (by simp)).2)
  obtain⟨hf1,hf2⟩:=fin2 (.slice (some ⟨w1.heap.size,0,none⟩) 0 0) (.int .i64 1) (nR1 (.cells #[] 9)) (b01.trans ((aA2 w1 _).mono b01.size)) (Nat.le_succ _)
  have cx0:=(aA1 hf2 0 (by simp)).1
  have cx1:=(aA1 hf2 1 (by simp)).1
  simp only[List.getElem_toArray,List.getElem_cons_zero,List.getElem_cons_succ] at cx0 cx1
  refine bodyPost_ret (v:=.agg #[.slice (some ⟨w1.heap.size,0,none⟩) 0 0,.int .i64 1]) (by simp[results,Tryz.results33,go_sem,cx0,cx1]) rfl ?_
  rw[HE.out]
  exact⟨some ⟨w1.heap.size,0,none⟩,0,rfl,aGJ _ _ _,hf1⟩
 have e0:pc=0:=HKO.out.2 ho
 subst e0
 cases hk:aDH f ks
 ·rw[hk] at HO
  have HE:Hid (aBM f p ks=some ([],1)):=aA0 (by rw[aBM,hk];simp)
  go_enter Tryz.func33,Tryz.ntmps33
  go_wp2_with (first
   |(go_at_call 40;refine(HC.out _ bX).mono ?_;rintro e w1 ⟨rfl,hb1⟩;have b01:=bX.trans (hb1.mono (by omega)))
   |(go_at_call 15;refine(HO.out _ b01).mono ?_;rintro e w2 ⟨rfl,hb2⟩;have z1:=hb1.size;have z2:=hb2.size;have b02:=b01.trans (hb2.mono b01.size);have nR2:=fun o=>((aA2 w2 o).block _ (by omega)).trans ((hb2.block _ (by omega)).trans ((hb1.block _ (by omega)).trans nR));have r0:=fun o=>(aA1 (nR2 o) 0 (by simp)).1;have f0:=fun o=>(aA1 (nR2 o) 0 (by simp)).2;have r1:=fun o=>(aA1 (nR2 o) 1 (by simp)).1;have f1:=fun o=>(aA1 (nR2 o) 1 (by simp)).2))
  obtain⟨hf1,hf2⟩:=fin2 (.slice (some ⟨w2.heap.size,0,none⟩) 0 0) (.int .i64 1) (nR2 (.cells #[] 9)) (b02.trans ((aA2 w2 _).mono b02.size)) (Nat.le_succ _)
  have cx0:=(aA1 hf2 0 (by simp)).1
  have cx1:=(aA1 hf2 1 (by simp)).1
  simp only[List.getElem_toArray,List.getElem_cons_zero,List.getElem_cons_succ] at cx0 cx1
  refine bodyPost_ret (v:=.agg #[.slice (some ⟨w2.heap.size,0,none⟩) 0 0,.int .i64 1]) (by simp[results,Tryz.results33,go_sem,cx0,cx1]) rfl ?_
  rw[HE.out]
  exact⟨some ⟨w2.heap.size,0,none⟩,0,rfl,aGJ _ _ _,hf1⟩
 rw[hk] at HO
 have HE:Hid (aBM f p ks=chkM p f [] qry ks ks.length):=aA0 (by rw[aBM,if_pos ⟨ho,hk⟩])
 have HLN:=aA0 (fun x (h:chkM p f [] qry ks ks.length=some x)=>aLK p f [] qry ks ks.length x h)
 generalize chkM p f [] qry ks ks.length=R at*
 obtain⟨way,hway⟩:∃way,way=wayO R:=⟨_,rfl⟩
 obtain⟨code,hcode⟩:∃code,code=aCE R:=⟨_,rfl⟩
 have hwl:way.length≤1000000000:=by
  rw[hway]
  cases R with
  |none=>simp[wayO]
  |some x=>have:=HLN.out x rfl;simp[wayO] at this ⊢;omega
 have HWC:=aA0 (And.intro hway hcode)
 clear HLN ho hk HKO hway hcode
 go_enter Tryz.func33,Tryz.ntmps33
 go_upto_region 4 with(first
  |(go_at_call 40;refine(HC.out _ bX).mono ?_;rintro e w1 ⟨rfl,hb1⟩;have b01:=bX.trans (hb1.mono (by omega)))
  |(go_at_call 15;refine(HO.out _ b01).mono ?_;rintro e w2 ⟨rfl,hb2⟩;have z1:=hb1.size;have z2:=hb2.size;have b02:=b01.trans (hb2.mono b01.size);have nR2:=(hb2.block _ (by omega)).trans ((hb1.block _ (by omega)).trans nR);have nP2:=(hb2.block _ (by omega)).trans ((hb1.block _ (by omega)).trans nP);have p0:=(aA1 nP2 0 (by simp)).1;have p1:=(aA1 nP2 1 (by simp)).1)
  |(go_at_call 70;refine(H3.out _ (b02.trans ((aA2 w2 _).mono b02.size)) _).mono ?_;rintro e w4 ⟨a4,c4,rfl,hS4,hb4⟩;rw[←HWC.out.1,←HWC.out.2];rw[←HWC.out.1] at hS4))
 have z4:=hb4.size
 have b03:=b02.trans ((aA2 w2 (.cells #[] 9)).mono b02.size)
 have b04:=b03.trans (hb4.mono b03.size)
 have n4:w4.heap[w.heap.size+1]?=some (.cells #[.slice none 0 0,.int .i64 0] 48 (0,0)):=(hb4.block _ (by simp;omega)).trans (((aA2 w2 _).block _ (by omega)).trans nR2)
 have bY0:=aA2 w4 (.cells #[.slice a4 way.length c4,.int .i64 code] 48)
 have nY:=aA3 (w:=w4) #[.slice a4 way.length c4,.int .i64 code] 48 rfl
 have zY:(w4.alloc (.cells #[.slice a4 way.length c4,.int .i64 code] 48)).heap.size=w4.heap.size+1:=by simp
 have hS4:=hS4.mono fun b hb=>bY0.block b hb.2
 have n4:=(bY0.block _ (by simp at z4;omega)).trans n4
 have b0Y:=b04.trans (bY0.mono b04.size)
 have z4':w.heap.size+1<w4.heap.size:=by simp at z4;omega
 clear bY0 b04 b03 hb4 b02 hb2 hb1 nR2 nP2 p0 p1 z4 nP nR bX zX b01
 generalize w4.alloc (.cells #[.slice a4 way.length c4,.int .i64 code] 48)=Y at*
 obtain⟨y0,g0⟩:=aA1 nY 0 (by simp)
 obtain⟨y1,g1⟩:=aA1 nY 1 (by simp)
 simp only[List.getElem_toArray,List.getElem_cons_zero,List.getElem_cons_succ] at y0 y1
 have RR:Hid (∀V o,((Y.setCell ⟨w4.heap.size,0,none⟩ V).alloc o).heap[w.heap.size+1]?=some (.cells #[.slice none 0 0,.int .i64 0] 48 (0,0))∧Below w.heap.size w ((Y.setCell ⟨w4.heap.size,0,none⟩ V).alloc o)):=aA0 fun V o=>by
  have b1:=b0Y.setCell (p:=⟨w4.heap.size,0,none⟩) (by show w.heap.size≤w4.heap.size;omega) V
  refine⟨?_,b1.trans ((aA2 _ o).mono b1.size)⟩
  rw[(aA2 _ o).block _ (by rw[aAZ];omega),Below.heap_setCell _ _ _ _ (by show w.heap.size+1≠w4.heap.size;omega)]
  exact n4
 have HY0:=aA0 (And.intro n4 (And.intro nY b0Y))
 by_cases hw0:way=[]
 ·subst hw0
  have r0:=fun V o=>(aA1 (RR.out V o).1 0 (by simp)).1
  have f0:=fun V o=>(aA1 (RR.out V o).1 0 (by simp)).2
  have r1:=fun V o=>(aA1 (RR.out V o).1 1 (by simp)).1
  have f1:=fun V o=>(aA1 (RR.out V o).1 1 (by simp)).2
  clear n4 nY
  rcases a4 with _| ad
  all_goals
   go_wp2_with fail
   obtain⟨hf1,hf2⟩:=fin2 (.slice (some ⟨w4.heap.size+1,0,none⟩) 0 0) (.int .i64 code) (RR.out (.slice (some ⟨w4.heap.size+1,0,none⟩) 0 0) (.cells #[] 9)).1 (RR.out _ _).2 (Nat.le_succ _)
   have cx0:=(aA1 hf2 0 (by simp)).1
   have cx1:=(aA1 hf2 1 (by simp)).1
   simp only[List.getElem_toArray,List.getElem_cons_zero,List.getElem_cons_succ] at cx0 cx1
   refine bodyPost_ret (v:=.agg #[.slice (some ⟨w4.heap.size+1,0,none⟩) 0 0,.int .i64 code]) (by simp[results,Tryz.results33,go_sem,cx0,cx1]) rfl ?_
   rw[HE.out]
   refine⟨some ⟨w4.heap.size+1,0,none⟩,0,?_,?_,hf1⟩
   ·rw[←HWC.out.1,←HWC.out.2];rfl
   ·rw[←HWC.out.1];exact aGJ _ _ _
 obtain⟨ab,aoff,rfl,hab,hac⟩:=hS4.1 hw0
 have hw1:0<way.length:=List.length_pos_iff.2 hw0
 have hablt:ab<Y.heap.size:=by omega
 have bE:=aA2 Y (.cells #[] 9)
 have nE:=aA3 (w:=Y) #[] 9 rfl
 have hOV:(Y.alloc (.cells #[] 9)).ownsRow Y.heap.size 9 1 (.slice (some ⟨w4.heap.size+1,0,none⟩) 0 0) 0 ([]:List Value):=⟨rfl,Or.inr ⟨w4.heap.size+1,0,_,rfl,by omega,by rw[←zY];exact nE,Nat.le_refl _,by unfold maxLen;omega,rfl,rfl⟩⟩
 have hNW:∀j u,(way.map Value.string)[j]?=some u→(Y.alloc (.cells #[] 9)).cell? ((⟨ab,aoff,none⟩:Addr).add j)=some u:=fun j u hu=>by
  obtain⟨hj,rfl⟩:=aNN way j u hu
  rw[Addr.add_lit]
  exact(bE.cell (p:=⟨ab,aoff+j,none⟩) hablt).trans (hac j hj)
 have hsz:=hS4.2.1
 have HOV:=aA0 (And.intro hOV (And.intro hNW hsz))
 have h1c:Hid (∀u∈ way.map Value.string,u.oneCell'=true):=aA0 (by intro u hu;simp at hu;obtain⟨x,-,rfl⟩:=hu;rfl)
 have hll:(way.map Value.string).length=way.length*1:=by simp
 clear hOV hNW n4 nY hsz hS4 hac
 go_wp2_with (
  at_builtin
  refine wpList_append_lies _ rfl _ _ _ rfl Y.heap.size 9 i9 (.string ByteArray.empty) 1 16 Tryz.underlying29 hi9 hy0 hy1 hy2 rfl (by decide) (.slice (some ⟨w4.heap.size+1,0,none⟩) 0 0) 0 ([]:List Value) rfl HOV.out.1 ⟨ab,aoff,none⟩ way.length c4 (way.map Value.string) rfl hll HOV.out.2.1 h1c.out hw1 (by unfold maxLen;omega) (by omega) bE.size (w4.heap.size+1+1) (by simp;omega) ?_
  intro g cap wP hown hgrow hat hltP
  simp only[Nat.zero_add,List.nil_append] at hown
  simp only[Nat.zero_add]
  have bP:=bE.grown hgrow bE.size (fun k hk=>(HOV.out.1.lt k hk).1)
  have HST:=aA0 (aU7 hown HOV.out.2.2 (by unfold maxLen;omega) hltP)
  have nYP:=(bP.block _ (by omega)).trans HY0.out.2.1
  have nRP:=(bP.block _ (by omega)).trans HY0.out.1
  have b0P:=HY0.out.2.2.trans (bP.mono HY0.out.2.2.size)
  obtain⟨y0P,g0P⟩:=aA1 nYP 0 (by simp)
  obtain⟨y1P,g1P⟩:=aA1 nYP 1 (by simp)
  simp only[List.getElem_toArray,List.getElem_cons_zero,List.getElem_cons_succ] at y0P y1P
  have RP:Hid (∀V,(wP.setCell ⟨w4.heap.size,0,none⟩ V).heap[w.heap.size+1]?=some (.cells #[.slice none 0 0,.int .i64 0] 48 (0,0))∧Below w.heap.size w (wP.setCell ⟨w4.heap.size,0,none⟩ V)):=aA0 fun V=>⟨(Below.heap_setCell _ _ _ _ (by show w.heap.size+1≠w4.heap.size;omega)).trans nRP,b0P.setCell (p:=⟨w4.heap.size,0,none⟩) (by show w.heap.size≤w4.heap.size;omega) V⟩
  have r0:=fun V=>(aA1 (RP.out V).1 0 (by simp)).1
  have f0:=fun V=>(aA1 (RP.out V).1 0 (by simp)).2
  have r1:=fun V=>(aA1 (RP.out V).1 1 (by simp)).1
  have f1:=fun V=>(aA1 (RP.out V).1 1 (by simp)).2
  clear nYP nRP hown hgrow hat)
 obtain⟨hf1,hf2⟩:=fin2 (.slice (some ⟨g,0,none⟩) way.length cap) (.int .i64 code) (RP.out (.slice (some ⟨g,0,none⟩) way.length cap)).1 (RP.out _).2 (Nat.le_succ _)
 have cx0:=(aA1 hf2 0 (by simp)).1
 have cx1:=(aA1 hf2 1 (by simp)).1
 simp only[List.getElem_toArray,List.getElem_cons_zero,List.getElem_cons_succ] at cx0 cx1
 refine bodyPost_ret (v:=.agg #[.slice (some ⟨g,0,none⟩) way.length cap,.int .i64 code]) (by simp[results,Tryz.results33,go_sem,cx0,cx1]) rfl ?_
 rw[HE.out]
 refine⟨some ⟨g,0,none⟩,cap,?_,?_,hf1⟩
 ·rw[←HWC.out.1,←HWC.out.2]
 ·rw[←HWC.out.1]
  have zb:=HY0.out.2.2.size
  refine(HST.out.mono fun b hq=>?_).sub fun b hq=>?_
  ·rw[Below.heap_setCell _ _ _ _ (by show b≠w.heap.size+1;omega),Below.heap_setCell _ _ _ _ (by show b≠w.heap.size+1;omega),Below.heap_setCell _ _ _ _ (by show b≠w4.heap.size;omega)]
  ·simp only[aAZ];omega
end Go.Proofs.YtokmgbidmnanpaaGreatDoor
