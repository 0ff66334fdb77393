import Derived.Test.YtcebpkeiaiiphaaGreatDoorRC31
set_option linter.unusedSimpArgs false
set_option linter.unusedVariables false
namespace Go.Proofs.YtcebpkeiaiiphaaGreatDoor
open Go.RowKit Go.Maps
attribute [local go_sem] Oper.semAt_some
theorem aVQ:(Tryz.prog.info? 78).map (fun i=>(i.zero.map fun z=>z.cells.size,i.size,i.bytes))=some (some 3,3,56):=by kernel_rfl
theorem aJW:∃(i:TypeInfo) (z:Value),Tryz.prog.info? 78=some i∧i.zero=some z∧i.size=3∧i.bytes=56∧z.cells.size=3:=by
 have h:=aVQ;cases hi:Tryz.prog.info? 78 with
 |none=>rw[hi] at h;cases h
 |some i=>
  rw[hi] at h;simp only[Option.map_some,Option.some.injEq,Prod.mk.injEq] at h;obtain⟨h1,h2,h3⟩:=h;cases hz:i.zero with
  |none=>rw[hz] at h1;cases h1
  |some z=>
   rw[hz] at h1;simp only[Option.map_some,Option.some.injEq] at h1;exact⟨i,z,rfl,hz,h2,h3,h1⟩
theorem aL6(FW:World)(tmps:Array Value)(N M:Nat)(v0 v1 v2 u0 u1 u2 u3:Value)(h2:tmps.getD 2 undef=.pointer (some ⟨N,0,none⟩))(h3:tmps.getD 3 undef=.pointer (some ⟨M,0,none⟩))
  (hN:FW.heap[N]?=some (.cells #[v0,v1,v2] 49 (0,0))) (hM:FW.heap[M]?=some (.cells #[u0,u1,u2,u3] 51 (0,0))):
  (results Tryz.f26 tmps).run Tryz.prog FW=.ok (.tuple #[.agg #[v0,v1,v2],.agg #[u0,u1,u2,u3]]) FW:=by
 simp only[Array.getD_eq_getD_getElem?] at h2 h3;have a0:=(aA1 hN 0 (by simp)).1
 have a1:=(aA1 hN 1 (by simp)).1
 have a2:=(aA1 hN 2 (by simp)).1
 have c0:=(aA1 hM 0 (by simp)).1
 have c1:=(aA1 hM 1 (by simp)).1
 have c2:=(aA1 hM 2 (by simp)).1
 have c3:=(aA1 hM 3 (by simp)).1
 simp only[List.getElem_toArray,List.getElem_cons_zero,List.getElem_cons_succ] at a0 a1 a2 c0 c1 c2 c3;simp[results,Tryz.results26,go_sem,h2,h3,a0,a1,a2,c0,c1,c2,c3]
theorem aVM{W:World}{N M:Nat}{a b c d e f g:Value}(hN:W.heap[N]?=some (.cells #[a,b,c] 49 (0,0)))(hM:W.heap[M]?=some (.cells #[d,e,f,g] 51 (0,0)))(hne:N≠M)(v0 v1 v2 u0 u1 u2 u3:Value)(F:World)
  (hF:F=((((((W.setCell ⟨N,0,none⟩ v0).setCell ⟨N,1,none⟩ v1).setCell ⟨N,2,none⟩ v2).setCell ⟨M,0,none⟩ u0).setCell ⟨M,1,none⟩ u1).setCell ⟨M,2,none⟩ u2).setCell ⟨M,3,none⟩ u3∨F=((((((W.setCell ⟨M,0,none⟩ u0).setCell ⟨M,1,none⟩ u1).setCell ⟨M,2,none⟩ u2).setCell ⟨M,3,none⟩ u3).setCell ⟨N,0,none⟩ v0).setCell ⟨N,1,none⟩ v1).setCell ⟨N,2,none⟩ v2):
  F.heap[N]?=some (.cells #[v0,v1,v2] 49 (0,0))∧F.heap[M]?=some (.cells #[u0,u1,u2,u3] 51 (0,0))∧(∀x,x≠N->x≠M->F.heap[x]?=W.heap[x]?)∧F.heap.size=W.heap.size∧(∀(B:Nat) (w0:World),Below B w0 W->B<=N->B<=M->Below B w0 F):=by
 have key:∀(V:World) (n:Nat) (i:Nat) (v:Value) (x:Nat),x≠n->(V.setCell ⟨n,i,none⟩ v).heap[x]?=V.heap[x]?:=fun V n i v x hx=>Below.heap_setCell _ _ _ _ hx;rcases hF with rfl| rfl
 ·have hM3:=(key ((W.setCell ⟨N,0,none⟩ v0).setCell ⟨N,1,none⟩ v1) N 2 v2 M (Ne.symm hne)).trans ((key (W.setCell ⟨N,0,none⟩ v0) N 1 v1 M (Ne.symm hne)).trans ((key W N 0 v0 M (Ne.symm hne)).trans hM));have hN3:=aAC (aAC (aAC hN 0 v0) 1 v1) 2 v2;refine⟨?_,by simpa using aAC (aAC (aAC (aAC hM3 0 u0) 1 u1) 2 u2) 3 u3,fun x h1 h2=>?_,by simp,fun B w0 hb h1 h2=>?_⟩
  ·rw[key _ M _ _ _ hne,key _ M _ _ _ hne,key _ M _ _ _ hne,key _ M _ _ _ hne];simpa using hN3
  ·rw[key _ M _ _ _ h2,key _ M _ _ _ h2,key _ M _ _ _ h2,key _ M _ _ _ h2,key _ N _ _ _ h1,key _ N _ _ _ h1,key _ N _ _ _ h1]
  ·exact((((((hb.setCell (p:=⟨N,0,none⟩) h1 _).setCell (p:=⟨N,1,none⟩) h1 _).setCell (p:=⟨N,2,none⟩) h1 _).setCell (p:=⟨M,0,none⟩) h2 _).setCell (p:=⟨M,1,none⟩) h2 _).setCell (p:=⟨M,2,none⟩) h2 _).setCell (p:=⟨M,3,none⟩) h2 _
 ·have hM3:=aAC (aAC (aAC (aAC hM 0 u0) 1 u1) 2 u2) 3 u3;have hN3:=(key (((W.setCell ⟨M,0,none⟩ u0).setCell ⟨M,1,none⟩ u1).setCell ⟨M,2,none⟩ u2) M 3 u3 N hne).trans ((key ((W.setCell ⟨M,0,none⟩ u0).setCell ⟨M,1,none⟩ u1) M 2 u2 N hne).trans ((key (W.setCell ⟨M,0,none⟩ u0) M 1 u1 N hne).trans ((key W M 0 u0 N hne).trans hN)));refine⟨by simpa using aAC (aAC (aAC hN3 0 v0) 1 v1) 2 v2,?_,fun x h1 h2=>?_,by simp,fun B w0 hb h1 h2=>?_⟩
  ·rw[key _ N _ _ _ (Ne.symm hne),key _ N _ _ _ (Ne.symm hne),key _ N _ _ _ (Ne.symm hne)];simpa using hM3
  ·rw[key _ N _ _ _ h1,key _ N _ _ _ h1,key _ N _ _ _ h1,key _ M _ _ _ h2,key _ M _ _ _ h2,key _ M _ _ _ h2,key _ M _ _ _ h2]
  ·exact((((((hb.setCell (p:=⟨M,0,none⟩) h2 _).setCell (p:=⟨M,1,none⟩) h2 _).setCell (p:=⟨M,2,none⟩) h2 _).setCell (p:=⟨M,3,none⟩) h2 _).setCell (p:=⟨N,0,none⟩) h1 _).setCell (p:=⟨N,1,none⟩) h1 _).setCell (p:=⟨N,2,none⟩) h1 _
theorem aS2(w:World):w.drew.heap=w.heap:=rfl
theorem put7{W:World}{N M:Nat}{a b c d e f g:Value}(hN:W.heap[N]?=some (.cells #[a,b,c] 49 (0,0)))(hM:W.heap[M]?=some (.cells #[d,e,f,g] 51 (0,0)))(hne:N≠M)(v0 v1 v2 u0 u1 u2 u3:Value)(F G:World)
  (hF:F=((((((W.setCell ⟨N,0,none⟩ v0).setCell ⟨N,1,none⟩ v1).setCell ⟨N,2,none⟩ v2).setCell ⟨M,0,none⟩ u0).setCell ⟨M,1,none⟩ u1).setCell ⟨M,2,none⟩ u2).setCell ⟨M,3,none⟩ u3∨F=((((((W.setCell ⟨M,0,none⟩ u0).setCell ⟨M,1,none⟩ u1).setCell ⟨M,2,none⟩ u2).setCell ⟨M,3,none⟩ u3).setCell ⟨N,0,none⟩ v0).setCell ⟨N,1,none⟩ v1).setCell ⟨N,2,none⟩ v2) (hG:G=F∨G=F.drew):
  G.heap[N]?=some (.cells #[v0,v1,v2] 49 (0,0))∧G.heap[M]?=some (.cells #[u0,u1,u2,u3] 51 (0,0))∧(∀x,x≠N->x≠M->G.heap[x]?=W.heap[x]?)∧G.heap.size=W.heap.size∧(∀(B:Nat) (w0:World),Below B w0 W->B<=N->B<=M->Below B w0 G):=by
 have h:=aVM hN hM hne v0 v1 v2 u0 u1 u2 u3 F hF;rcases hG with rfl| rfl
 ·exact h
 ·rw[aS2];exact⟨h.1,h.2.1,h.2.2.1,h.2.2.2.1,fun B w0 hb h1 h2=>(h.2.2.2.2 B w0 hb h1 h2).drew⟩
def aUG(w:World)(Lo B:Nat)(ps:List Pt)(ok:Bool)(e:Ending)(w':World):Prop:=∃(s0:ByteArray) (a1:Option Addr) (l1 c1:Nat) (a2:Option Addr) (l2 c2:Nat) (at':Int) (ty fl:ByteArray) (code:Int),e=.returned (.tuple #[.agg #[.string s0,.slice a1 l1 c1,.slice a2 l2 c2],.agg #[.int .i64 at',.string ty,.string fl,.int .i64 code]])∧(code=0↔ok=true)∧Below w.heap.size w w'∧(ok=true->s0=⟨#[97]⟩∧l1=(allM ps).types.length∧PRep w' (fun b=>(Lo<=b∧b<B)∨(w.heap.size<=b∧b<w'.heap.size)) (allM ps) (.agg #[.string ⟨#[97]⟩,.slice a1 (allM ps).types.length c1]))
structure MkSt(X:World)(CB:Nat)(ta:Option Addr)(L tc:Nat)(m:Nat)(wr:World):Prop where
 ex:∃(ov:Value) (q:Nat) (xs:List Value),wr.heap[CB]?=some (.cells #[.string ⟨#[97]⟩,.slice ta L tc,ov] 49 (0,0))∧wr.ownsRow (CB+1) 78 3 ov q xs∧q<=m
 bel:Below CB X wr
 lt:CB<wr.heap.size
structure MkTy(X:World)(CB:Nat)(ta:Option Addr)(L tc:Nat)(m TB:Nat)(cs:Array Value)(wr:World):Prop where
 ex:∃(ov:Value) (q:Nat) (xs:List Value),wr.heap[CB]?=some (.cells #[.string ⟨#[97]⟩,.slice ta L tc,ov] 49 (0,0))∧wr.ownsRow (CB+1) 78 3 ov q xs∧q<=m∧ov.ownBlock≠some TB
 bel:Below CB X wr
 lt:CB<TB∧TB<wr.heap.size
 box:wr.heap[TB]?=some (.cells cs 96 (0,0))
theorem MkTy.st{X:World}{CB:Nat}{ta:Option Addr}{L tc m TB:Nat}{cs:Array Value}{wr:World}(h:MkTy X CB ta L tc m TB cs wr):MkSt X CB ta L tc m wr:=by
 obtain⟨ov,q,xs,h1,h2,h3,-⟩:=h.ex;exact⟨⟨ov,q,xs,h1,h2,h3⟩,h.bel,Nat.lt_trans h.lt.1 h.lt.2⟩
theorem MkSt.up{X:World}{CB:Nat}{ta:Option Addr}{L tc m m':Nat}{wr:World}(h:MkSt X CB ta L tc m wr)(hm:m<=m'):MkSt X CB ta L tc m' wr:=by
 obtain⟨ov,q,xs,h1,h2,h3⟩:=h.ex;exact⟨⟨ov,q,xs,h1,h2,by omega⟩,h.bel,h.lt⟩
theorem MkSt.ty{X:World}{CB:Nat}{ta:Option Addr}{L tc m:Nat}{wr:World}(h:MkSt X CB ta L tc m wr)(cs:Array Value):MkTy X CB ta L tc m wr.heap.size cs (wr.alloc (.cells cs 96)):=by
 obtain⟨ov,q,xs,h1,h2,h3⟩:=h.ex;have hb:=aA2 wr (.cells cs 96);refine⟨⟨ov,q,xs,(hb.block CB h.lt).trans h1,aAE h2 hb,h3,fun e=>?_⟩,h.bel.trans (hb.mono (Nat.le_of_lt h.lt)),⟨h.lt,by simp⟩,aA3 _ _ rfl⟩
 have:=(h2.lt _ e).2;omega
set_option maxRecDepth 20000 in
set_option maxHeartbeats 3200000 in
theorem aEF(ps:List Pt)(w:World)(Lo B:Nat)(a:Option Addr)(c:Nat)(hR:aAP w (fun b=>Lo<=b∧b<B) ps a)(hB:B<=w.heap.size)(hz:∀i,i<ps.length->szP (pth ps i)<=1048576):
  Calls Tryz.prog 26 #[.slice a ps.length c] w fun e w'=>aUG w Lo B ps (aBA ps okP) e w':=by
 have HFA:=aA0 (fun W (hW:Below w.heap.size w W)=>aO1 ps W B a c (hR.low.under (hW.mono hB)) (Nat.le_trans hB hW.size) hz);have HR:=aA0 hR;have HBL:=aA0 hB;have HZ:=aA0 hz;have HCB:Hid (aBA ps okP=(aBV ps okP&&okP (allM ps))):=aA0 (by first| rfl| (unfold aBA;rfl))
 clear hR hB hz;rw[HCB.out];obtain⟨X,hXe⟩:∃x,x=(w.alloc (.cells #[.string ⟨#[]⟩,.slice none 0 0,.slice none 0 0] 49)).alloc (.cells #[.int .i64 0,.string ⟨#[]⟩,.string ⟨#[]⟩,.int .i64 0] 51):=⟨_,rfl⟩;have bX:=aA6 w (.cells #[.string ⟨#[]⟩,.slice none 0 0,.slice none 0 0] 49) (.cells #[.int .i64 0,.string ⟨#[]⟩,.string ⟨#[]⟩,.int .i64 0] 51);go_enter Tryz.func26,Tryz.ntmps26
 go_upto_region 2 with(go_at_call 47;refine(HFA.out _ bX).mono ?_;rintro e w1 ⟨at',ty,fl,code,rfl,hcode,b1⟩)
 rw[<-hXe] at bX b1;have hXs:X.heap.size=w.heap.size+1+1:=by rw[hXe];simp
 have nN:X.heap[w.heap.size]?=some (.cells #[.string ⟨#[]⟩,.slice none 0 0,.slice none 0 0] 49 (0,0)):=by rw[hXe];exact((aA2 _ _).block w.heap.size (by simp)).trans (aA3 _ _ rfl)
 have nM:X.heap[w.heap.size+1]?=some (.cells #[.int .i64 0,.string ⟨#[]⟩,.string ⟨#[]⟩,.int .i64 0] 51 (0,0)):=by rw[hXe];exact aA3 _ _ (by simp)
 have nF:=aA3 (w:=w1) (N:=w1.heap.size) #[.int .i64 at',.string ty,.string fl,.int .i64 code] 51 rfl;have bF:=aA2 w1 (.cells #[.int .i64 at',.string ty,.string fl,.int .i64 code] 51);have hF1:w1.heap.size<(w1.alloc (.cells #[.int .i64 at',.string ty,.string fl,.int .i64 code] 51)).heap.size:=by simp
 generalize w1.alloc (.cells #[.int .i64 at',.string ty,.string fl,.int .i64 code] 51)=w2 at*;have hz1:=b1.size;have b2:Below X.heap.size X w2:=b1.trans (bF.mono b1.size);have hz2:=b2.size;have HBX:Hid (∀W,Below w2.heap.size w2 W->W.heap[w.heap.size]?=some (.cells #[.string ⟨#[]⟩,.slice none 0 0,.slice none 0 0] 49 (0,0))∧W.heap[w.heap.size+1]?=some (.cells #[.int .i64 0,.string ⟨#[]⟩,.string ⟨#[]⟩,.int .i64 0] 51 (0,0))∧W.heap[w1.heap.size]?=some (.cells #[.int .i64 at',.string ty,.string fl,.int .i64 code] 51 (0,0))∧Below w.heap.size w W):=aA0 fun W hW=>by
  have hb:=b2.trans (hW.mono hz2);exact⟨(hb.block _ (by omega)).trans nN,(hb.block _ (by omega)).trans nM,(hW.block _ hF1).trans nF,bX.trans (hb.mono (by omega))⟩
 clear hXe nN nM nF bF b1 HFA;obtain⟨FB,hFB⟩:∃x,x=w1.heap.size:=⟨_,rfl⟩;cases hok:aBV ps okP
 ·have hc0:¬code=0:=fun h=>by rw[hcode.1 h] at hok;cases hok
  obtain⟨h1,h2,h3,-⟩:=HBX.out w2 (Below.refl _ _);have hbw:=(HBX.out w2 (Below.refl _ _)).2.2.2;obtain⟨a0,az0⟩:=aA1 h1 0 (by simp)
  obtain⟨a1,az1⟩:=aA1 h1 1 (by simp)
  obtain⟨a2,az2⟩:=aA1 h1 2 (by simp)
  obtain⟨c0,cz0⟩:=aA1 h2 0 (by simp)
  obtain⟨c1,cz1⟩:=aA1 h2 1 (by simp)
  obtain⟨c2,cz2⟩:=aA1 h2 2 (by simp)
  obtain⟨c3,cz3⟩:=aA1 h2 3 (by simp)
  obtain⟨e0,-⟩:=aA1 h3 0 (by simp)
  obtain⟨e1,-⟩:=aA1 h3 1 (by simp)
  obtain⟨e2,-⟩:=aA1 h3 2 (by simp)
  obtain⟨e3,-⟩:=aA1 h3 3 (by simp)
  obtain⟨-,-,h3',-⟩:=HBX.out w2 (Below.refl _ _);obtain⟨g3,-⟩:=aA1 h3' 3 (by simp)
  simp only[List.getElem_toArray,List.getElem_cons_zero,List.getElem_cons_succ] at a0 a1 a2 c0 c1 c2 c3 e0 e1 e2 e3 g3;go_upto_region 3 with fail
  clear g3 h3';go_region
  all_goals
   have HP:=put7 h1 h2 (by omega) (.string ⟨#[]⟩) (.slice none 0 0) (.slice none 0 0) (.int .i64 at') (.string ty) (.string fl) (.int .i64 code) _ _ (by first| exact Or.inl rfl| exact Or.inr rfl) (Or.inr rfl)
   go_wp2_with fail
   exact bodyPost_ret (aL6 _ _ w.heap.size (w.heap.size+1) _ _ _ _ _ _ _ rfl rfl HP.1 HP.2.1) rfl ⟨_,_,_,_,_,_,_,at',ty,fl,code,rfl,⟨fun h=>absurd h hc0,fun h=>(by rw[hok] at h;cases h)⟩,HP.2.2.2.2 _ _ hbw (Nat.le_refl _) (Nat.le_succ _),fun h=>(by rw[hok] at h;cases h)⟩
 ·obtain rfl:=hcode.2 hok;obtain⟨hp1,hp4,hpk⟩:=aKY hok;have hallz:=aHH ps hp4 hpk;have HAL:=aA0 (aQW ps w2 Lo B a c (HR.out.underA ((bX.trans (b2.mono (by omega))).mono HBL.out)) (by have:=HBL.out;omega) (aVH ps hp4 HZ.out) (aSO ps HZ.out))
  have HPF:=aA0 (aE9 (allM ps));obtain⟨A,HA⟩:∃A,Hid (A=allM ps):=⟨_,rfl⟩;rw[<-HA.out] at HAL hallz HPF;replace hallz:=aA0 hallz
  replace hok:=aA0 hok
  clear hp1 hp4 hpk hcode;obtain⟨-,-,h3',-⟩:=HBX.out w2 (Below.refl _ _);obtain⟨g3,-⟩:=aA1 h3' 3 (by simp)
  simp only[List.getElem_toArray,List.getElem_cons_zero,List.getElem_cons_succ] at g3;go_upto_region 5 with(
   go_at_call 48
   refine HAL.out.mono ?_;rintro e w3 ⟨ta,tc,rfl,hPA,b3⟩)
  clear g3 h3' HAL;obtain⟨L,HLn⟩:∃L,Hid (L=A.types.length):=⟨_,rfl⟩;rw[<-HLn.out] at hPA ⊢;have nC:=aA3 (w:=w3) (N:=w3.heap.size) #[.string ⟨#[97]⟩,.slice ta L tc,.slice none 0 0] 49 rfl;have bC:=aA2 w3 (.cells #[.string ⟨#[97]⟩,.slice ta L tc,.slice none 0 0] 49);have hC1:w3.heap.size<(w3.alloc (.cells #[.string ⟨#[97]⟩,.slice ta L tc,.slice none 0 0] 49)).heap.size:=by simp
  generalize w3.alloc (.cells #[.string ⟨#[97]⟩,.slice ta L tc,.slice none 0 0] 49)=w4 at*;have hz3:=b3.size;have hBw:=HBL.out;obtain⟨c0,-⟩:=aA1 nC 0 (by simp)
  obtain⟨c1,-⟩:=aA1 nC 1 (by simp)
  simp only[List.getElem_toArray,List.getElem_cons_zero,List.getElem_cons_succ] at c0 c1;have HPA:Hid (∀W,Below w3.heap.size w3 W->PRep W (fun b=>(Lo<=b∧b<B)∨(w2.heap.size<=b∧b<w3.heap.size)) A (.agg #[.string ⟨#[97]⟩,.slice ta L tc])):=aA0 fun W hW=>hPA.mono fun b hb=>hW.block b (by omega)
  have HPC:=aA0 (fun W (hW:Below w4.heap.size w4 W)=>aD9 A W w4.heap.size _ ((HPA.out W (bC.trans (hW.mono (Nat.le_of_lt hC1)))).sub (Q:=fun b=>b<w4.heap.size) fun b hb=>by show b<w4.heap.size;omega) hW.size hallz.out)
  obtain⟨fa,fc,HFP⟩:∃fa fc,Hid (aCQ A=(fa,fc)):=⟨_,_,rfl⟩;rw[HFP.out] at HPC HPF;have hF:=aFQ (.int .i64 fa) (.int .i64 fc);have HBX4:Hid (∀W,Below w3.heap.size w3 W->W.heap[w.heap.size]?=some (.cells #[.string ⟨#[]⟩,.slice none 0 0,.slice none 0 0] 49 (0,0))∧W.heap[w.heap.size+1]?=some (.cells #[.int .i64 0,.string ⟨#[]⟩,.string ⟨#[]⟩,.int .i64 0] 51 (0,0))∧W.heap[w1.heap.size]?=some (.cells #[.int .i64 at',.string ty,.string fl,.int .i64 0] 51 (0,0))∧Below w.heap.size w W):=aA0 fun W hW=>HBX.out W (b3.trans (hW.mono hz3));go_upto_if 23 with(
   go_at_call 49
   refine(HPC.out w4 (Below.refl _ _)).mono ?_;rintro e w5 ⟨rfl,b5⟩)
  have nC5:=(b5.block w3.heap.size hC1).trans nC;have b35:Below w3.heap.size w3 w5:=bC.trans (b5.mono (Nat.le_of_lt hC1));have hz5:=b5.size;clear c0 c1 nC bC b5 HPC HBX hPA;by_cases hfc:fc=0
  rotate_left
  ·have hfb:(fc !=0)=true:=by simpa using hfc
   obtain⟨h1,h2,-,hbw⟩:=HBX4.out w5 b35;obtain⟨a0,az0⟩:=aA1 h1 0 (by simp)
   obtain⟨a1,az1⟩:=aA1 h1 1 (by simp)
   obtain⟨a2,az2⟩:=aA1 h1 2 (by simp)
   obtain⟨c0,cz0⟩:=aA1 h2 0 (by simp)
   obtain⟨c1,cz1⟩:=aA1 h2 1 (by simp)
   obtain⟨c2,cz2⟩:=aA1 h2 2 (by simp)
   obtain⟨c3,cz3⟩:=aA1 h2 3 (by simp)
   simp only[List.getElem_toArray,List.getElem_cons_zero,List.getElem_cons_succ] at a0 a1 a2 c0 c1 c2 c3;have HP:=aA0 (put7 h1 h2 (by omega) (.string ⟨#[]⟩) (.slice none 0 0) (.slice none 0 0) (.int .i64 0) (.string ⟨#[]⟩) (.string ⟨#[]⟩) (.int .i64 8) _ _ (Or.inl rfl) (Or.inl rfl))
   have hnok:¬okP A=true:=fun h=>hfc (HPF.out.2 h);go_wp2_with fail
   exact bodyPost_ret (aL6 _ _ w.heap.size (w.heap.size+1) _ _ _ _ _ _ _ rfl rfl HP.out.1 HP.out.2.1) rfl ⟨_,_,_,_,_,_,_,0,⟨#[]⟩,⟨#[]⟩,8,rfl,⟨fun h=>by omega,fun h=>(by rw[hok.out,Bool.true_and,<-HA.out] at h;exact absurd h hnok)⟩,HP.out.2.2.2.2 _ _ hbw (Nat.le_refl _) (Nat.le_succ _),fun h=>(by rw[hok.out,Bool.true_and,<-HA.out] at h;exact absurd h hnok)⟩
  subst hfc;obtain⟨-,-,h3',-⟩:=HBX4.out w5 b35;obtain⟨ta',tc',he,⟨h56,C,hA,hr⟩,-⟩:=HPA.out w3 (Below.refl _ _);simp only[Value.agg.injEq,Array.mk.injEq,List.cons.injEq,Value.slice.injEq,true_and,and_true] at he;obtain⟨-,rfl,-,rfl⟩:=he;have HAOK:Hid (okP A=true):=aA0 (HPF.out.1 rfl);have hL6:L<=6000000000000:=by rw[HLn.out];omega
  have HTT:Hid (∀k,k<L->∃(b off fl fcp fb fo:Nat) (tn tk:ByteArray),ta=some ⟨b,off,none⟩∧fl=(tth A.types k).fields.length∧fl<=1000000000000000∧(∀W,Below w3.heap.size w3 W->W.cell? ⟨b,off+k*3,none⟩=some (.string tn)∧W.cell? ⟨b,off+k*3+1,none⟩=some (.string tk)∧W.cell? ⟨b,off+k*3+2,none⟩=some (.slice (some ⟨fb,fo,none⟩) fl fcp))∧∀j,j<fl->∃(fn:ByteArray),∀W,Below w3.heap.size w3 W->W.cell? ⟨fb,fo+j*8,none⟩=some (.string fn)):=aA0 fun k hk=>by
   rw[HLn.out] at hk;obtain⟨b,off,e,hb,hc⟩:=hA (by omega)
   obtain⟨fa,fcp,he,⟨h64,D,hAD,hrD⟩,-⟩:=hr k hk;simp only[Value.agg.injEq,Array.mk.injEq,List.cons.injEq,and_true] at he;obtain⟨e0,e1,e2⟩:=he;have hbl:b<w3.heap.size:=by omega
   obtain⟨fb,fo,rfl,hfb,hcd⟩:=hAD (aCI (aEI HAOK.out hk)).1;refine⟨b,off,_,fcp,fb,fo,(tth A.types k).name,(tth A.types k).key,e,rfl,by omega,fun W hW=>?_,fun j hj=>?_⟩
   ·have h:=fun j hj=>(hW.cell (p:=⟨b,off+k*3+j,none⟩) hbl).trans (hc k hk j hj);have h0:=h 0 (by omega)
    have h1:=h 1 (by omega)
    have h2:=h 2 (by omega)
    rw[e0,Nat.add_zero] at h0;rw[e1] at h1;rw[e2] at h2;exact⟨h0,h1,h2⟩
   ·obtain⟨na,nc,he,-⟩:=hrD j hj;simp only[Value.agg.injEq,Array.mk.injEq,List.cons.injEq,and_true] at he;refine⟨(fth (tth A.types k).fields j).name,fun W hW=>?_⟩;have h1:=(hW.cell (p:=⟨fb,fo+j*8+0,none⟩) (by show fb<_;omega)).trans (hcd j hj 0 (by omega))
    rw[he.1,Nat.add_zero] at h1;exact h1
  have HFC:Hid (∀k,k<L->fcT A (k+1)=fcT A k+(tth A.types k).fields.length+1):=aA0 fun k hk=>rfl;have HFB:Hid (∀k,k<=L->fcT A k<=100000000):=aA0 fun k hk=>by
   have h1:=aP7 A A.types.length;have h2:=aTU A (show k<=A.types.length by rw[<-HLn.out];exact hk)
   have h3:szP A=A.name.size+(A.types.length+aB1 A.types A.types.length):=rfl;have h4:=hallz.out;omega
  have HM0:Hid (MkSt w5 w3.heap.size ta L tc (fcT A 0) w5):=aA0 ⟨⟨.slice none 0 0,0,[],nC5,World.ownsRow_nil _ _ _ _,Nat.zero_le _⟩,Below.refl _ _,by omega⟩
  have HLL:Hid (L=A.types.length):=HLn;have hw22:w.heap.size+2<=w2.heap.size:=by omega
  have HNE:Hid (¬w1.heap.size=w.heap.size∧¬w1.heap.size=w.heap.size+1∧¬w3.heap.size=w.heap.size∧¬w3.heap.size=w.heap.size+1∧¬w.heap.size=w1.heap.size∧¬w.heap.size+1=w1.heap.size∧¬w.heap.size=w3.heap.size∧¬w.heap.size+1=w3.heap.size):=aA0 ⟨by omega,by omega,by omega,by omega,by omega,by omega,by omega,by omega⟩
  clear h3' nC5 hA hr h56 hF hz1 hz2 HPF;go_wp2_with fail
  simp only[show((0:Int) !=0)=false from rfl]
  go_loopw [6] (fun i wr=>∃k:Nat,k<=L∧i=.int .i64 k∧Hid (MkSt w5 w3.heap.size ta L tc (fcT A k) wr)) (fun i _=>L- (intOf i).toNat)
  case atStart=>exact⟨0,Nat.zero_le _,rfl,HM0⟩
  case round=>
   clear HM0;obtain⟨k,hk,rfl,HK⟩:=hrel;obtain⟨wK,rfl⟩:∃x,x=wr:=⟨wr,rfl⟩;have b5K:=HK.out.bel;have bK:Below w3.heap.size w3 wK:=b35.trans b5K;obtain⟨ov,q,xs,hCB,hrw,-⟩:=HK.out.ex;obtain⟨oa,ol,oc,rfl⟩:∃oa ol oc,ov=.slice oa ol oc:=by
    rcases hrw.2 with⟨e,-⟩| ⟨g,cap,cur,e,-⟩
    ·exact⟨_,_,_,e⟩
    ·exact⟨_,_,_,e⟩
   clear hrw;obtain⟨c0,-⟩:=aA1 hCB 0 (by simp)
   obtain⟨c1,-⟩:=aA1 hCB 1 (by simp)
   obtain⟨c2,-⟩:=aA1 hCB 2 (by simp)
   simp only[List.getElem_toArray,List.getElem_cons_zero,List.getElem_cons_succ] at c0 c1 c2;by_cases hlt:k<L
   case neg=>
    have hki:¬(k:Int)<(L:Int):=by omega
    obtain⟨h1,h2,h3,hbw⟩:=HBX4.out wK bK;obtain⟨a0,az0⟩:=aA1 h1 0 (by simp)
    obtain⟨a1,az1⟩:=aA1 h1 1 (by simp)
    obtain⟨a2,az2⟩:=aA1 h1 2 (by simp)
    obtain⟨d0,dz0⟩:=aA1 h2 0 (by simp)
    obtain⟨d1,dz1⟩:=aA1 h2 1 (by simp)
    obtain⟨d2,dz2⟩:=aA1 h2 2 (by simp)
    obtain⟨d3,dz3⟩:=aA1 h2 3 (by simp)
    obtain⟨e0,-⟩:=aA1 h3 0 (by simp)
    obtain⟨e1,-⟩:=aA1 h3 1 (by simp)
    obtain⟨e2,-⟩:=aA1 h3 2 (by simp)
    obtain⟨e3,-⟩:=aA1 h3 3 (by simp)
    simp only[List.getElem_toArray,List.getElem_cons_zero,List.getElem_cons_succ] at a0 a1 a2 d0 d1 d2 d3 e0 e1 e2 e3;have HEND:Hid (∀F G,(F=((((((wK.setCell ⟨w.heap.size,0,none⟩ (.string ⟨#[97]⟩)).setCell ⟨w.heap.size,1,none⟩ (.slice ta L tc)).setCell ⟨w.heap.size,2,none⟩ (.slice oa ol oc)).setCell ⟨w.heap.size+1,0,none⟩ (.int .i64 at')).setCell ⟨w.heap.size+1,1,none⟩ (.string ty)).setCell ⟨w.heap.size+1,2,none⟩ (.string fl)).setCell ⟨w.heap.size+1,3,none⟩ (.int .i64 0)∨F=((((((wK.setCell ⟨w.heap.size+1,0,none⟩ (.int .i64 at')).setCell ⟨w.heap.size+1,1,none⟩ (.string ty)).setCell ⟨w.heap.size+1,2,none⟩ (.string fl)).setCell ⟨w.heap.size+1,3,none⟩ (.int .i64 0)).setCell ⟨w.heap.size,0,none⟩ (.string ⟨#[97]⟩)).setCell ⟨w.heap.size,1,none⟩ (.slice ta L tc)).setCell ⟨w.heap.size,2,none⟩ (.slice oa ol oc))->(G=F∨G=F.drew)->
     G.heap[w.heap.size]?=some (.cells #[.string ⟨#[97]⟩,.slice ta L tc,.slice oa ol oc] 49 (0,0))∧G.heap[w.heap.size+1]?=some (.cells #[.int .i64 at',.string ty,.string fl,.int .i64 0] 51 (0,0))∧aUG w Lo B ps (aBV ps okP&&okP (allM ps)) (.returned (.tuple #[.agg #[.string ⟨#[97]⟩,.slice ta L tc,.slice oa ol oc],.agg #[.int .i64 at',.string ty,.string fl,.int .i64 0]])) G):=aA0 fun F G hF hG=>by
     have HP:=put7 h1 h2 (by omega) (.string ⟨#[97]⟩) (.slice ta L tc) (.slice oa ol oc) (.int .i64 at') (.string ty) (.string fl) (.int .i64 0) F G hF hG
     have hpa:=HPA.out wK bK;have hzK:=bK.size;refine⟨HP.1,HP.2.1,_,_,_,_,_,_,_,at',ty,fl,0,rfl,⟨fun _=>by rw[hok.out,Bool.true_and,<-HA.out];exact HAOK.out,fun _=>rfl⟩,HP.2.2.2.2 _ _ hbw (Nat.le_refl _) (Nat.le_succ _),fun _=>⟨rfl,by rw[<-HA.out,<-HLL.out],?_⟩⟩
     rw[<-HA.out,<-HLL.out];exact(hpa.mono fun b hb=>HP.2.2.1 b (by omega) (by omega)).sub fun b hb=>hb.imp id fun h=>⟨by omega,by rw[HP.2.2.2.1];omega⟩
    obtain⟨ne1,ne2,ne3,ne4,ne5,ne6,ne7,ne8⟩:=HNE.out;go_upto_region 15 with fail
    go_region
    all_goals
     have HE:=HEND.out _ _ (by first| exact Or.inl rfl| exact Or.inr rfl) (Or.inr rfl)
     go_wp2_with fail
     exact bodyPost_ret (aL6 _ _ w.heap.size (w.heap.size+1) _ _ _ _ _ _ _ rfl rfl HE.1 HE.2.1) rfl HE.2.2
   case pos=>
    have hki:(k:Int)<(L:Int):=by omega
    obtain⟨b,off,fl',fcp,fb,fo,tn,tk,rfl,HFL,hfl,hTC,hFC⟩:=HTT.out k hlt;replace HFL:=aA0 HFL
    have HFN:=aA0 hFC;obtain⟨t0,t1,t2⟩:=hTC wK bK;have HMT:=aA0 (HK.out.ty #[.string tn,.string tk,.slice (some ⟨fb,fo,none⟩) fl' fcp]);have hTB:w3.heap.size<wK.heap.size:=HK.out.lt;go_upto_region 11 with fail
    clear c0 c1 c2 t0 t1 t2 hCB hFC hTC;generalize wK.alloc (.cells #[.string tn,.string tk,.slice (some ⟨fb,fo,none⟩) fl' fcp] 96)=wT at*;go_wp2_with fail
    go_loopw [8] (fun i wr=>∃j:Nat,j<=fl'∧i=.int .i64 j∧Hid (MkTy w5 w3.heap.size (some ⟨b,off,none⟩) L tc (fcT A k+j) wK.heap.size #[.string tn,.string tk,.slice (some ⟨fb,fo,none⟩) fl' fcp] wr)) (fun i _=>fl'- (intOf i).toNat)
    case atStart=>exact⟨0,Nat.zero_le _,rfl,HMT⟩
    case round=>
     clear HMT;obtain⟨j,hj,rfl,HJ⟩:=hrel;obtain⟨wJ,rfl⟩:∃x,x=wr:=⟨wr,rfl⟩;obtain⟨y2,-⟩:=aA1 HJ.out.box 2 (by simp)
     simp only[List.getElem_toArray,List.getElem_cons_zero,List.getElem_cons_succ] at y2;by_cases hjl:j<fl'
     case neg=>
      have hji:¬(j:Int)<(fl':Int):=by omega
      have HK1:=aA0 (HJ.out.st.up (m':=fcT A (k+1)) (by rw[HFC.out k hlt,<-HFL.out];omega))
      go_wp2_with fail
      exact⟨⟨k+1,by omega,by go_num,HK1⟩,by simp[intOf];omega⟩
     case pos=>
      have hji:(j:Int)<(fl':Int):=by omega
      obtain⟨fn,hFc⟩:=HFN.out j hjl;obtain⟨ov,q,xs,hCB,hrw,hqm,hob⟩:=HJ.out.ex;have hlt3:=HJ.out.lt;have bJ:Below w3.heap.size w3 wJ:=b35.trans HJ.out.bel;have hqb:q<=200000000:=by have:=HFB.out k (by omega);have:=HFB.out (k+1) (by omega);rw[HFC.out k hlt,<-HFL.out] at this;omega
      obtain⟨iO,zO,hiO,hO0,hO1,hO2,hOz⟩:=aJW;have hbT:=HJ.out.box;have HSD:Hid (∀W,Below wJ.heap.size wJ W->W.cell? ⟨wK.heap.size,0,none⟩=some (.string tn)∧W.cell? ⟨wK.heap.size,2,none⟩=some (.slice (some ⟨fb,fo,none⟩) fl' fcp)∧W.cell? ⟨fb,fo+j*8,none⟩=some (.string fn)):=aA0 fun W hW=>by
       have h:=(hW.block _ hlt3.2).trans hbT;exact⟨(aA1 h 0 (by simp)).1,(aA1 h 2 (by simp)).1,hFc W (bJ.trans (hW.mono (by omega)))⟩
      have HC2:Hid (∀W,Below wJ.heap.size wJ W->W.cell? ⟨w3.heap.size,2,none⟩=some ov):=aA0 fun W hW=>(aA1 ((hW.block _ (by omega)).trans hCB) 2 (by simp)).1
      have HOW:=aA0 (fun W (hW:Below wJ.heap.size wJ W)=>aI3 ps tn fn W B a c ((HR.out.low.under ((HBX4.out W (bJ.trans (hW.mono (by omega)))).2.2.2.mono HBL.out))) (by have:=hW.size;have:=HBL.out;omega))
      have HRW:Hid (∀W,Below wJ.heap.size wJ W->W.ownsRow (w3.heap.size+1) 78 3 ov q xs∧w3.heap.size+1<=W.heap.size):=aA0 fun W hW=>⟨aAE hrw hW,by have:=hW.size;omega⟩
      have HGR:Hid (∀W,Below wJ.heap.size wJ W->∀W',W.grownBy W' ov.ownBlock->∀b,b<wJ.heap.size->ov.ownBlock≠some b->W'.heap[b]?=wJ.heap[b]?):=aA0 fun W hW W' hg b hb hn=>(hg.block b (Nat.lt_of_lt_of_le hb hW.size) (fun e=>hn e.symm)).trans (hW.block b hb);have hCo:ov.ownBlock≠some w3.heap.size:=fun e=>by have:=(hrw.lt _ e).1;omega
      have hFo:ov.ownBlock≠some fb∨True:=Or.inr trivial;have HSF:Hid (∀W,Below wJ.heap.size wJ W->∀W',W.grownBy W' ov.ownBlock->W'.cell? ⟨wK.heap.size,0,none⟩=some (.string tn)∧W'.cell? ⟨wK.heap.size,2,none⟩=some (.slice (some ⟨fb,fo,none⟩) fl' fcp)∧W'.cell? ⟨fb,fo+j*8,none⟩=some (.string fn)):=aA0 fun W hW W' hg=>by
       have h:=(HGR.out W hW W' hg _ hlt3.2 hob).trans hbT;refine⟨(aA1 h 0 (by simp)).1,(aA1 h 2 (by simp)).1,hFc W' ((bJ.trans (hW.mono (by omega))).grown hg (by have:=hW.size;omega) fun k hk=>by have:=(hrw.lt k hk).1;omega)⟩
      have HBF:Hid (∀W,Below wJ.heap.size wJ W->∀W',W.grownBy W' ov.ownBlock->W'.heap[w3.heap.size]?=some (.cells #[.string ⟨#[97]⟩,.slice (some ⟨b,off,none⟩) L tc,ov] 49 (0,0))):=aA0 fun W hW W' hg=>(HGR.out W hW W' hg _ (by omega) hCo).trans hCB
      have HST:Hid (∀W,Below wJ.heap.size wJ W->∀W',W.grownBy W' ov.ownBlock->∀v,(W'.setCell ⟨w3.heap.size,2,none⟩ v).cell? ⟨wK.heap.size,0,none⟩=some (.string tn)∧(W'.setCell ⟨w3.heap.size,2,none⟩ v).cell? ⟨wK.heap.size,2,none⟩=some (.slice (some ⟨fb,fo,none⟩) fl' fcp)∧(W'.setCell ⟨w3.heap.size,2,none⟩ v).cell? ⟨fb,fo+j*8,none⟩=some (.string fn)):=aA0 fun W hW W' hg v=>by
       obtain⟨q1,q2,-⟩:=HSF.out W hW W' hg;have hb':=(bJ.trans (hW.mono (by omega))).grown hg (by have:=hW.size;omega) fun k hk=>by have:=(hrw.lt k hk).1;omega
       exact⟨(World.cell?_of_block (a:=⟨wK.heap.size,0,none⟩) (Below.heap_setCell _ _ _ _ (by show wK.heap.size≠w3.heap.size;omega))).trans q1,(World.cell?_of_block (a:=⟨wK.heap.size,2,none⟩) (Below.heap_setCell _ _ _ _ (by show wK.heap.size≠w3.heap.size;omega))).trans q2,hFc _ (hb'.setCell (p:=⟨w3.heap.size,2,none⟩) (Nat.le_refl _) v)⟩
      have HEND:Hid (∀W,Below wJ.heap.size wJ W->∀W' gF capF ys,W'.ownsRow (w3.heap.size+1) 78 3 (.slice (some ⟨gF,0,none⟩) (q+1) capF) (q+1) ys->W.grownBy W' ov.ownBlock->((Value.slice (some ⟨gF,0,none⟩) (q+1) capF).ownBlock=ov.ownBlock∨(Value.slice (some ⟨gF,0,none⟩) (q+1) capF).ownBlock=some W.heap.size)->Hid (MkTy w5 w3.heap.size (some ⟨b,off,none⟩) L tc (fcT A k+(j+1)) wK.heap.size #[.string tn,.string tk,.slice (some ⟨fb,fo,none⟩) fl' fcp] (W'.setCell ⟨w3.heap.size,2,none⟩ (.slice (some ⟨gF,0,none⟩) (q+1) capF)))):=aA0 fun W hW W' gF capF ys oF hg hor=>by
       have hz:=hW.size;have hb5:Below w3.heap.size w5 W':=(HJ.out.bel.trans (hW.mono (by omega))).grown hg (by omega) fun k hk=>by have:=(hrw.lt k hk).1;omega
       refine⟨⟨_,q+1,ys,by simpa using aAC (HBF.out W hW W' hg) 2 (.slice (some ⟨gF,0,none⟩) (q+1) capF),ownsRow_setCell_below oF (a:=⟨w3.heap.size,2,none⟩) (Nat.lt_succ_self _) _,by omega,fun e=>?_⟩,hb5.setCell (p:=⟨w3.heap.size,2,none⟩) (Nat.le_refl _) _,⟨hlt3.1,?_⟩,?_⟩
       ·rcases hor with hor| hor
        ·exact hob (hor▸e)
        ·rw[hor] at e;have:=Option.some.inj e;omega
       ·have:=hg.size;simp;omega
       ·rw[Below.heap_setCell _ _ _ _ (by show wK.heap.size≠w3.heap.size;omega)];exact(HGR.out W hW W' hg _ hlt3.2 hob).trans hbT
      clear hCB hbT;go_upto_region 14 with fail
      clear y2;refine wp_region_held_drew (S:=(fun w'=>w'.cell? ⟨wK.heap.size,0,none⟩=some (.string tn)∧w'.cell? ⟨wK.heap.size,2,none⟩=some (.slice (some ⟨fb,fo,none⟩) fl' fcp)∧w'.cell? ⟨fb,fo+j*8,none⟩=some (.string fn))) (by kernel_rfl) (HSD.out _ (Below.refl _ _).drew) (fun hHeld=>?_)
      have bX:Below wJ.heap.size wJ wJ.drew:=(Below.refl _ _).drew;generalize wJ.drew=wD at*;refine tkH 0 hHeld ?_;refine tkH 2 hHeld ?_;refine tkH 3 hHeld ?_;refine tkH 4 hHeld ?_;refine tkH 5 hHeld ?_;refine tkH 6 hHeld ?_;refine tkH 7 hHeld ?_;refine tkH 8 hHeld ?_;refine tkH 9 hHeld ?_;refine tkH 10 hHeld ?_;refine tkH 11 hHeld ?_;refine tkH 12 hHeld ?_;refine tkH 13 hHeld ?_;refine tkH 14 hHeld ?_;refine tkH 15 hHeld ?_;refine tkH 16 hHeld ?_;refine tkH 17 hHeld ?_;refine tkH 18 hHeld ?_;refine rdyH [1,19] ?_;refine rcH (fun K hK=>?_) ?_
      ·have c1:=HC2.out wD bX;go_simp
       clear c1;refine hK.out _ _ (HSD.out _ bX) (fun hHeld=>?_);clear hK K;try simp only[Act.put,sIA,sI0,sIS]
       refine rdyH [19] ?_;refine rcH (fun K hK=>?_) AllReadyH.nil;go_simp
       refine(HOW.out wD bX).mono ?_;rintro e wOw ⟨oa,oc,rfl,-,bOw⟩;have bX:=bX.trans (bOw.mono bX.size);refine hK.out _ _ (HSD.out _ bX) (fun hHeld=>?_);clear hK K;try simp only[Act.put,sIA,sI0,sIS]
       refine tkH 20 hHeld ?_;refine rdyH [21] ?_;refine rcH (fun K hK=>?_) AllReadyH.nil;go_simp
       have bE:=aA2 wOw (.cells #[.string tn,.string fn,.slice oa (aAW ps tn fn).length oc] 78);obtain⟨gE,hgE⟩:∃g,g=wOw.heap.size:=⟨_,rfl⟩;have nE:=aA3 (w:=wOw) (N:=gE) #[.string tn,.string fn,.slice oa (aAW ps tn fn).length oc] 78 hgE.symm;have bX:=bX.trans (bE.mono bX.size);refine hK.out _ _ (HSD.out _ bX) (fun hHeld=>?_);clear hK K;try simp only[Act.put,sIA,sI0,sIS]
       rw[<-hgE];generalize wOw.alloc (.cells #[.string tn,.string fn,.slice oa (aAW ps tn fn).length oc] 78)=wEe at*;clear hgE bE;refine rdyH [22] ?_;refine rcH (fun K hK=>?_) AllReadyH.nil;refine aBG rfl (.tmp 48) (.tmp 68) 47 rfl (w3.heap.size+1) 78 iO zO 3 56 Tryz.underlying47 hiO hO0 hO1 hO2 hOz (by decide) ov q xs rfl (HRW.out wEe bX).1 ⟨gE,0,none⟩ 1 1 [.string tn,.string fn,.slice oa (aAW ps tn fn).length oc] rfl rfl (World.news_of_block nE) (by intro u hu;simp at hu;rcases hu with rfl| rfl| rfl<;>rfl) (by unfold maxLen;omega) (by omega) (HRW.out wEe bX).2 ?_
       intro v' wF oF hgrF hiffF hobF;obtain⟨gF,capF,rfl,-,-⟩:=oF.form (by omega)
       refine hK.out _ _ (HSF.out _ bX _ hgrF) (fun hHeld=>?_);clear hK K;try simp only[Act.put,sIA,sI0,sIS]
       refine tkH 23 hHeld ?_;refine rdyH [24] ?_;refine rcH (fun K hK=>?_) AllReadyH.nil;have hbx:=HBF.out _ bX _ hgrF;obtain⟨c1,z1⟩:=aA1 hbx 2 (by simp)
       go_simp
       clear hbx c1 z1;refine hK.out _ _ (HST.out _ bX _ hgrF _) (fun hHeld=>?_);clear hK K;try simp only[Act.put,sIA,sI0,sIS]
       refine wpAnyH_done (by kernel_rfl) ?_ _
       have HFIN:=HEND.out _ bX _ gF capF _ oF hgrF hobF;clear HEND;generalize wF.setCell ⟨w3.heap.size,2,none⟩ (.slice (some ⟨gF,0,none⟩) (q+1) capF)=wZ at*;clear oF hgrF hobF bX nE;go_wp2_with fail
       go_roundw
       case measure=>simp[intOf];omega
       case rel=>exact⟨j+1,by omega,by go_num,HFIN⟩
      refine rcH (fun K hK=>?_) AllReadyH.nil;go_simp
      refine(HOW.out wD bX).mono ?_;rintro e wOw ⟨oa,oc,rfl,-,bOw⟩;have bX:=bX.trans (bOw.mono bX.size);refine hK.out _ _ (HSD.out _ bX) (fun hHeld=>?_);clear hK K;try simp only[Act.put,sIA,sI0,sIS]
      refine tkH 20 hHeld ?_;refine rdyH [1,21] ?_;refine rcH (fun K hK=>?_) ?_
      ·have c1:=HC2.out wOw bX;go_simp
       clear c1;refine hK.out _ _ (HSD.out _ bX) (fun hHeld=>?_);clear hK K;try simp only[Act.put,sIA,sI0,sIS]
       refine rdyH [21] ?_;refine rcH (fun K hK=>?_) AllReadyH.nil;go_simp
       have bE:=aA2 wOw (.cells #[.string tn,.string fn,.slice oa (aAW ps tn fn).length oc] 78);obtain⟨gE,hgE⟩:∃g,g=wOw.heap.size:=⟨_,rfl⟩;have nE:=aA3 (w:=wOw) (N:=gE) #[.string tn,.string fn,.slice oa (aAW ps tn fn).length oc] 78 hgE.symm;have bX:=bX.trans (bE.mono bX.size);refine hK.out _ _ (HSD.out _ bX) (fun hHeld=>?_);clear hK K;try simp only[Act.put,sIA,sI0,sIS]
       rw[<-hgE];generalize wOw.alloc (.cells #[.string tn,.string fn,.slice oa (aAW ps tn fn).length oc] 78)=wEe at*;clear hgE bE;refine rdyH [22] ?_;refine rcH (fun K hK=>?_) AllReadyH.nil;refine aBG rfl (.tmp 48) (.tmp 68) 47 rfl (w3.heap.size+1) 78 iO zO 3 56 Tryz.underlying47 hiO hO0 hO1 hO2 hOz (by decide) ov q xs rfl (HRW.out wEe bX).1 ⟨gE,0,none⟩ 1 1 [.string tn,.string fn,.slice oa (aAW ps tn fn).length oc] rfl rfl (World.news_of_block nE) (by intro u hu;simp at hu;rcases hu with rfl| rfl| rfl<;>rfl) (by unfold maxLen;omega) (by omega) (HRW.out wEe bX).2 ?_
       intro v' wF oF hgrF hiffF hobF;obtain⟨gF,capF,rfl,-,-⟩:=oF.form (by omega)
       refine hK.out _ _ (HSF.out _ bX _ hgrF) (fun hHeld=>?_);clear hK K;try simp only[Act.put,sIA,sI0,sIS]
       refine tkH 23 hHeld ?_;refine rdyH [24] ?_;refine rcH (fun K hK=>?_) AllReadyH.nil;have hbx:=HBF.out _ bX _ hgrF;obtain⟨c1,z1⟩:=aA1 hbx 2 (by simp)
       go_simp
       clear hbx c1 z1;refine hK.out _ _ (HST.out _ bX _ hgrF _) (fun hHeld=>?_);clear hK K;try simp only[Act.put,sIA,sI0,sIS]
       refine wpAnyH_done (by kernel_rfl) ?_ _
       have HFIN:=HEND.out _ bX _ gF capF _ oF hgrF hobF;clear HEND;generalize wF.setCell ⟨w3.heap.size,2,none⟩ (.slice (some ⟨gF,0,none⟩) (q+1) capF)=wZ at*;clear oF hgrF hobF bX nE;go_wp2_with fail
       go_roundw
       case measure=>simp[intOf];omega
       case rel=>exact⟨j+1,by omega,by go_num,HFIN⟩
      refine rcH (fun K hK=>?_) AllReadyH.nil;go_simp
      have bE:=aA2 wOw (.cells #[.string tn,.string fn,.slice oa (aAW ps tn fn).length oc] 78);obtain⟨gE,hgE⟩:∃g,g=wOw.heap.size:=⟨_,rfl⟩;have nE:=aA3 (w:=wOw) (N:=gE) #[.string tn,.string fn,.slice oa (aAW ps tn fn).length oc] 78 hgE.symm;have bX:=bX.trans (bE.mono bX.size);refine hK.out _ _ (HSD.out _ bX) (fun hHeld=>?_);clear hK K;try simp only[Act.put,sIA,sI0,sIS]
      rw[<-hgE];generalize wOw.alloc (.cells #[.string tn,.string fn,.slice oa (aAW ps tn fn).length oc] 78)=wEe at*;clear hgE bE;refine rdyH [1] ?_;refine rcH (fun K hK=>?_) AllReadyH.nil;have c1:=HC2.out wEe bX;go_simp
      clear c1;refine hK.out _ _ (HSD.out _ bX) (fun hHeld=>?_);clear hK K;try simp only[Act.put,sIA,sI0,sIS]
      refine rdyH [22] ?_;refine rcH (fun K hK=>?_) AllReadyH.nil;refine aBG rfl (.tmp 48) (.tmp 68) 47 rfl (w3.heap.size+1) 78 iO zO 3 56 Tryz.underlying47 hiO hO0 hO1 hO2 hOz (by decide) ov q xs rfl (HRW.out wEe bX).1 ⟨gE,0,none⟩ 1 1 [.string tn,.string fn,.slice oa (aAW ps tn fn).length oc] rfl rfl (World.news_of_block nE) (by intro u hu;simp at hu;rcases hu with rfl| rfl| rfl<;>rfl) (by unfold maxLen;omega) (by omega) (HRW.out wEe bX).2 ?_
      intro v' wF oF hgrF hiffF hobF;obtain⟨gF,capF,rfl,-,-⟩:=oF.form (by omega)
      refine hK.out _ _ (HSF.out _ bX _ hgrF) (fun hHeld=>?_);clear hK K;try simp only[Act.put,sIA,sI0,sIS]
      refine tkH 23 hHeld ?_;refine rdyH [24] ?_;refine rcH (fun K hK=>?_) AllReadyH.nil;have hbx:=HBF.out _ bX _ hgrF;obtain⟨c1,z1⟩:=aA1 hbx 2 (by simp)
      go_simp
      clear hbx c1 z1;refine hK.out _ _ (HST.out _ bX _ hgrF _) (fun hHeld=>?_);clear hK K;try simp only[Act.put,sIA,sI0,sIS]
      refine wpAnyH_done (by kernel_rfl) ?_ _
      have HFIN:=HEND.out _ bX _ gF capF _ oF hgrF hobF;clear HEND;generalize wF.setCell ⟨w3.heap.size,2,none⟩ (.slice (some ⟨gF,0,none⟩) (q+1) capF)=wZ at*;clear oF hgrF hobF bX nE;go_wp2_with fail
      go_roundw
      case measure=>simp[intOf];omega
      case rel=>exact⟨j+1,by omega,by go_num,HFIN⟩
end Go.Proofs.YtcebpkeiaiiphaaGreatDoor
