import Derived.Test.YtcebpkeiaiiphaaGreatDoorRC20
import Derived.Test.YtcebpkeiaiiphaaGreatDoorRC23
set_option linter.unusedSimpArgs false
set_option linter.unusedVariables false
namespace Go.Proofs.YtcebpkeiaiiphaaGreatDoor
open Go.RowKit
theorem aT8(fs:List F)(k:Nat)(g:F)(hk:k<fs.length):szFs (fs.set k g)+szF (fth fs k)=szFs fs+szF g:=by
 unfold szFs aBE;rw[List.length_set];have:=aHL (fun i=>szF (fth (fs.set k g) i)) (fun i=>szF (fth fs i)) k (fun i hi=>by show szF _=szF _;rw[aKQ _ _ _ _ hi]) fs.length hk
 simp only[aKN _ _ _ hk] at this;omega
theorem aQL(fs:List F)(g:F):szFs (fs++[g])=szFs fs+1+szF g:=by
 unfold szFs;rw[List.length_append,List.length_singleton,aC0,aGE];have:aBE (fs++[g]) fs.length=aBE fs fs.length:=aOK _ _ _ fun i hi=>by rw[aGI _ _ _ hi]
 omega
theorem aTD(ts:List T)(k:Nat)(g:T)(hk:k<ts.length):szTs (ts.set k g)+szT (tth ts k)=szTs ts+szT g:=by
 unfold szTs aB1;rw[List.length_set];have:=aHL (fun i=>szT (tth (ts.set k g) i)) (fun i=>szT (tth ts i)) k (fun i hi=>by show szT _=szT _;rw[aFX _ _ _ _ hi]) ts.length hk
 simp only[aHO _ _ _ hk] at this;omega
theorem aQN(ts:List T)(g:T):szTs (ts++[g])=szTs ts+1+szT g:=by
 unfold szTs;rw[List.length_append,List.length_singleton,aB8,aDR];have:aB1 (ts++[g]) ts.length=aB1 ts ts.length:=aOK _ _ _ fun i hi=>by rw[aEX _ _ _ hi]
 omega
theorem aUO(t:T)(f:F):szT (putF t f)<=szT t+1+szF f:=by
 unfold putF;split
 ·rename_i h;have hx:aAB t f.name=aA9 (fun i=>(fth t.fields i).name.toList==f.name.toList) t.fields.length:=rfl;rcases aA8 (fun i=>(fth t.fields i).name.toList==f.name.toList) t.fields.length with⟨h2,-⟩| ⟨g,h2,hg,-,-⟩
  ·rw[hx,h2] at h;omega
  ·rw[hx,h2];show t.name.size+t.key.size+szFs (t.fields.set (g:Int).toNat _)<=_;rw[Int.toNat_natCast];have h3:=aT8 t.fields g { (fth t.fields g) with hidden:=(fth t.fields g).hidden||f.hidden,needs:=if f.needs.length=0 then(fth t.fields g).needs else f.needs } hg
   have h4:szF { (fth t.fields g) with hidden:=(fth t.fields g).hidden||f.hidden,needs:=if f.needs.length=0 then(fth t.fields g).needs else f.needs }<=szF (fth t.fields g)+szF f:=by
    unfold szF;simp only;split<;>omega
   unfold szT;omega
 ·show t.name.size+t.key.size+szFs (t.fields++[_])<=_;rw[aQL];unfold szT szF;simp only;omega
theorem aSY(o t:T)(n:Nat):szT (aF9 o t n)<=szT o+n+aBE t.fields n:=by
 induction n with
 |zero=>simp[aF9]
 |succ n ih=>
  rw[aF9,aC0];have:=aUO (aF9 o t n) (fth t.fields n);omega
theorem aSU(ps:List Pt)(out:List T)(t:T)(K:Nat)(hK:(keyM ps t.name).size<=K):szTs (aQS ps out t)<=szTs out+szT t+K+1:=by
 rw[<-aGQ];unfold midT;have h1:=aTD (aD5 ps out t) (atT out t) (aF9 (tth (aD5 ps out t) (atT out t)) t t.fields.length) (aP0 ps out t);have h2:=aSY (tth (aD5 ps out t) (atT out t)) t t.fields.length;have h3:szTs (aD5 ps out t)<=szTs out+t.name.size+K+1:=by
  unfold aD5;split
  ·omega
  ·rw[aQN];have:szT ⟨t.name,keyM ps t.name,[]⟩=t.name.size+(keyM ps t.name).size:=by simp[szT,szFs,aBE]
   omega
 have h4:szT t=t.name.size+t.key.size+(t.fields.length+aBE t.fields t.fields.length):=rfl;omega
theorem aQ1(ps:List Pt)(p:Pt)(out:List T)(K:Nat)(hK:∀nm,(keyM ps nm).size<=K)(k:Nat):szTs (aC9 ps p out k)<=szTs out+aB1 p.types k+k*(K+1):=by
 induction k with
 |zero=>simp[aC9]
 |succ k ih=>
  rw[aC9,aB8,Nat.succ_mul];have:=aSU ps (aC9 ps p out k) (tth p.types k) K (hK _);omega
theorem aPO(ps:List Pt)(K M L:Nat)(hK:∀nm,(keyM ps nm).size<=K)(i:Nat)(hM:∀j,j<i->szP (pth ps j)<=M)(hL:∀j,j<i->(pth ps j).types.length<=L):szTs (aBW ps i)<=i*(M+L*(K+1)):=by
 induction i with
 |zero=>simp[aBW,szTs,aB1]
 |succ i ih=>
  rw[aBW,Nat.succ_mul];have h1:=ih (fun j hj=>hM j (by omega)) (fun j hj=>hL j (by omega))
  have h2:=aQ1 ps (pth ps i) (aBW ps i) K hK (pth ps i).types.length;have h3:=hM i (by omega)
  have h4:szP (pth ps i)=(pth ps i).name.size+((pth ps i).types.length+aB1 (pth ps i).types (pth ps i).types.length):=rfl;have h5:=Nat.mul_le_mul_right (K+1) (hL i (by omega))
  omega
theorem aU7(ps:List Pt)(K M L:Nat)(hK:∀nm,(keyM ps nm).size<=K)(hM:∀j,j<ps.length->szP (pth ps j)<=M)(hL:∀j,j<ps.length->(pth ps j).types.length<=L):szP (allM ps)<=1+ps.length*(M+L*(K+1)):=by
 have h1:=aPO ps K M L hK ps.length hM hL;show(1:Nat)+szTs (aBW ps ps.length)<=_;omega
theorem aFK(ts:List T)(k:Nat):∀n,k<n->szT (tth ts k)<=aB1 ts n
 |0,h=>absurd h (Nat.not_lt_zero _)
 |n+1,h=>by
  rw[aB8];by_cases e:k=n
  ·subst e;omega
  ·have:=aFK ts k n (by omega)
   omega
theorem aFV(p:Pt)(nm:ByteArray):szT (aA5 p nm)<=szP p:=by
 have hz:∀k,szT (tth p.types k)<=szP p:=fun k=>by
  have h4:szP p=p.name.size+(p.types.length+aB1 p.types p.types.length):=rfl;by_cases h:k<p.types.length
  ·have:=aFK p.types k p.types.length h;omega
  ·have:tth p.types k=T.zero:=by simp[tth,List.getD_eq_getElem?_getD,List.getElem?_eq_none (Nat.le_of_not_lt h)]
   rw[this];exact Nat.zero_le _
 unfold aA5;split
 ·exact hz _
 ·exact Nat.zero_le _
theorem aU9(ps:List Pt)(M:Nat)(hM:∀j,j<ps.length->szP (pth ps j)<=M)(nm:ByteArray):(keyM ps nm).size<=M:=by
 unfold keyM;split
 ·rename_i hx;have hk:aOC ps nm=aA9 (fun i=>!(aA5 (pth ps i) nm).key.toList.isEmpty) ps.length:=rfl;rcases aA8 (fun i=>!(aA5 (pth ps i) nm).key.toList.isEmpty) ps.length with⟨h2,-⟩| ⟨g,h2,hg,-,-⟩
  ·rw[hk,h2] at hx;omega
  ·rw[hk,h2,Int.toNat_natCast];have h1:=aFV (pth ps g) nm;have h3:=hM g hg;have h4:szT (aA5 (pth ps g) nm)=(aA5 (pth ps g) nm).name.size+(aA5 (pth ps g) nm).key.size+szFs (aA5 (pth ps g) nm).fields:=rfl;omega
 ·exact Nat.zero_le _
end Go.Proofs.YtcebpkeiaiiphaaGreatDoor
namespace Go.Proofs.YtcebpkeiaiiphaaGreatDoor
open Go.RowKit Go.Maps
set_option maxRecDepth 20000 in
set_option maxHeartbeats 3200000 in
theorem aRA(w:World)(F:Nat->Prop)(B:Nat)(kv:Value)(m KL KL':Nat)(KS KS':List Value)(GL GL':Value->List Value)(sb off:Nat)(cs:Array Value)(T:TypeId)(a n:ByteArray)(x:Int)
  (h:Lst w F FKy B 153 2 3 1 kv m KL KS GL) (hb:w.heap[sb]?=some (.cells cs T (0,0))) (h0:cs[off]?=some kv) (h1:cs[off+1]?=some (.map (some m))) (hsb:¬F sb) (hKL:KL<=1000000) (hGL:(GL (fk a n)).length<=1000000)
  (hk:aFA (GL (fk a n)) KL KS [.string a,.string n] KL' KS') (e1:GL' (fk a n)=GL (fk a n)++[.int .i64 x]) (e2:∀y,y≠(fk a n)->GL' y=GL y):
  Calls Tryz.prog 146 #[.pointer (some ⟨sb,off,none⟩),.agg #[.string a,.string n],.int .i64 x] w (aG8 w F FKy B 153 2 3 1 m sb off cs T KL' KS' GL'):=by
 obtain⟨iK,zK,hiK,hK0,hK1,hK2,hKz⟩:=aJ8;obtain⟨i3,hi3,hy0,hy1,hy2⟩:=info_parts aVR;have hsl:sb<w.heap.size:=(Array.getElem?_eq_some_iff.1 hb).1;have HB:=aA0 hb;have HE0:=aA0 h0;have HE1:=aA0 h1;have HGL:=aA0 hGL;have he1:=aA0 e1;have he2:=aA0 e2;have hfst:Hid (aFA (GL (fk a n)) KL KS [.string a,.string n] KL' KS'):=hk;have HX:Hid (∀X,X=(w.alloc (.cells #[.string a,.string n] 153))->Below w.heap.size w X∧w.heap.size+1<=X.heap.size∧X.heap[w.heap.size]?=some (.cells #[.string a,.string n] 153 (0,0))):=aA0 (by
  rintro X rfl;refine⟨aA2 w _,by simp,?_⟩
  exact aA3 _ _ rfl)
 have HH:=aA0 h;have hHL:=aA0 h.map;clear h hb h0 h1 hGL e1 e2 hk;go_enter Tryz.func146,Tryz.ntmps146
 go_upto_region 1 with fail
 obtain⟨X,hXe⟩:∃X,X=(w.alloc (.cells #[.string a,.string n] 153)):=⟨_,rfl⟩;obtain⟨bX,zX,n0⟩:=HX.out X hXe;rw[<-hXe];clear hXe HX;have HBX:=aA0 bX;have hLX:=HH.out.keep (fun b hb=>bX.block b (HH.out.bd b hb).2) bX.size;have HBB:=aA0 ((bX.block sb hsl).trans HB.out);have HEX:Hid (∀W:World,W.heap[w.heap.size]?=X.heap[w.heap.size]?->W.cell? ⟨w.heap.size,0,none⟩=some (.string a)∧W.cell? ⟨w.heap.size,1,none⟩=some (.string n)):=aA0 fun W g0=>by
  have n0:=g0.trans n0;exact⟨(aA1 n0 0 (by simp)).1,(aA1 n0 1 (by simp)).1⟩
 have HHX:=aA0 hLX;have HLK0:Hid (∃v L,(∀W,Below X.heap.size X W->(Instr.lookup 142 (.map (some m)) (fk a n) false).run Tryz.prog W=.ok v W)∧((GL (fk a n)=[]∧v=.slice none 0 0)∨(GL (fk a n)≠[]∧0<L∧∃g cap,v=.slice (some ⟨g,0,none⟩) L cap))):=aA0 (by
  obtain⟨G,hO,hG⟩:=HHX.out.map;obtain⟨L,-,h3,-⟩:=hG.found (by decide) (fk a n)
  refine⟨_,L,fun W hW=>?_,h3⟩;have:=(hO.of_block (hW.block m HHX.out.mlt.2)).lookG false (keyF W) Tryz.underlying142 (aIU W) (x:=(fk a n)) ⟨_,_,rfl⟩;simpa using this)
 obtain⟨v,L,hlk0,hv⟩:=HLK0.out;have HLK1:=aA0 hlk0;have HC9:Hid (∀W,Below X.heap.size X W->W.cell? ⟨sb,off+1,none⟩=some (.map (some m))∧W.cell? ⟨w.heap.size,0,none⟩=some (.string a)∧W.cell? ⟨w.heap.size,1,none⟩=some (.string n)):=aA0 fun W hW=>⟨(aCW ((hW.block sb (by have:=bX.size;omega)).trans HBB.out) HE1.out).1,HEX.out W (hW.block _ (by omega))⟩
 clear n0 hlk0 HLK0 hLX;have zbX:=bX.size;clear bX;rcases hv with⟨hgl,rfl⟩| ⟨hgl,hL,g,cap,rfl⟩
 case' inl=>
  have HK1:Hid (KL'=KL+1∧KS'=KS++[.string a,.string n]):=aA0 (by
   rcases hfst.out with h| h
   ·exact h.2
   ·exact absurd hgl h.1)
  clear hgl;refine wp_region_held_drew (S:=(fun w'=>w'.cell? ⟨sb,off+1,none⟩=some (.map (some m))∧w'.cell? ⟨w.heap.size,0,none⟩=some (.string a)∧w'.cell? ⟨w.heap.size,1,none⟩=some (.string n))) (by kernel_rfl) (HC9.out _ (Below.refl _ _).drew) (fun hHeld=>?_)
  have bX:Below X.heap.size X X.drew:=(Below.refl _ _).drew;have HBD:=aA0 bX;generalize X.drew=wD at*;refine tkH 0 hHeld ?_;refine tkH 1 hHeld ?_;refine tkH 2 hHeld ?_;refine tkH 3 hHeld ?_;refine tkH 4 hHeld ?_;refine rdyH [5] ?_;refine rcH (fun K hK=>?_) AllReadyH.nil;have hlk:=HLK1.out wD bX;simp only[fk] at hlk;go_simp
  clear hlk;refine hK.out _ _ (HC9.out _ bX) (fun hHeld=>?_);clear hK K;try simp only[Act.put,sIA,sI0,sIS]
  refine tkH 6 hHeld ?_;refine tkH 7 hHeld ?_;refine wpAnyH_done (by kernel_rfl) ?_ _
  go_wp2_with fail
  obtain⟨bD,zD⟩:Below X.heap.size X wD∧X.heap.size<=wD.heap.size:=⟨bX,bX.size⟩;have HBD2:=aA0 bD;have HC8:Hid (∀W,Below wD.heap.size wD W->W.cell? ⟨w.heap.size,0,none⟩=some (.string a)∧W.cell? ⟨w.heap.size,1,none⟩=some (.string n)):=aA0 fun W hW=>(HC9.out W (HBD2.out.trans (hW.mono HBD2.out.size))).2;have HHD:=aA0 (HHX.out.keep (w':=wD) (fun b hb=>HBD2.out.block b (HHX.out.bd b hb).2) HBD2.out.size);have HBS:=aA0 ((HBD2.out.block sb (by omega)).trans HBB.out)
  have HKC:Hid (∀W,Below wD.heap.size wD W->W.cell? ⟨sb,off,none⟩=some kv):=aA0 fun W hW=>(aCW ((hW.block sb (by omega)).trans HBS.out) HE0.out).1
  have HKR:Hid (∀W,Below wD.heap.size wD W->W.ownsRow B 153 2 kv KL KS):=aA0 fun W hW=>aB2 HHD.out.keys fun g hg=>hW.block g (HHD.out.bd g (HHD.out.keyF g hg)).2;have hmB:=HHD.out.mlt;have HKF:Hid (∀b,kv.ownBlock=some b->F b∧b≠sb∧b<w.heap.size):=aA0 fun b e=>⟨HH.out.keyF b e,fun e2=>hsb (e2▸HH.out.keyF b e),(HH.out.bd b (HH.out.keyF b e)).2⟩;have HSF:Hid (∀W,Below wD.heap.size wD W->∀wF,W.grownBy wF kv.ownBlock->(wF.cell? ⟨w.heap.size,0,none⟩=some (.string a)∧wF.cell? ⟨w.heap.size,1,none⟩=some (.string n))∧wF.heap[sb]?=some (.cells cs T (0,0))):=aA0 fun W hW wF hg=>by
   have hz:=hW.size;refine⟨HEX.out wF ?_,?_⟩
   ·exact(hg.block _ (by omega) fun e=>by have:=(HKF.out _ e.symm).2.2;omega).trans ((hW.block _ (by omega)).trans (HBD2.out.block _ (by omega)))
   ·exact(hg.block sb (by omega) fun e=>(HKF.out sb e.symm).2.1 rfl).trans ((hW.block sb (by omega)).trans HBS.out)
  have HEND1:Hid (∀W,Below wD.heap.size wD W->∀(g cap:Nat) (wF:World),wF.ownsRow B 153 2 (.slice (some ⟨g,0,none⟩) (KL+1) cap) (KL+1) (KS++[.string a,.string n])->W.grownBy wF kv.ownBlock->(kv.ownBlock=some g∨g=W.heap.size)->(∃F1,Lst (wF.setCell ⟨sb,off,none⟩ (.slice (some ⟨g,0,none⟩) (KL+1) cap)) F1 FKy B 153 2 3 1 (.slice (some ⟨g,0,none⟩) (KL+1) cap) m KL' KS' GL∧∀b,F1 b->F b∨X.heap.size<=b)∧(wF.setCell ⟨sb,off,none⟩ (.slice (some ⟨g,0,none⟩) (KL+1) cap)).heap[sb]?=some (.cells (cs.setIfInBounds off (.slice (some ⟨g,0,none⟩) (KL+1) cap)) T (0,0))∧aBD (fun b=>F b∨b=sb) X (wF.setCell ⟨sb,off,none⟩ (.slice (some ⟨g,0,none⟩) (KL+1) cap))∧(wF.setCell ⟨sb,off,none⟩ (.slice (some ⟨g,0,none⟩) (KL+1) cap)).cell? ⟨w.heap.size,0,none⟩=some (.string a)∧(wF.setCell ⟨sb,off,none⟩ (.slice (some ⟨g,0,none⟩) (KL+1) cap)).cell? ⟨w.heap.size,1,none⟩=some (.string n)):=aA0 fun W hW g cap wF ho hg hor=>by
   have hz:=hW.size;have hs:=HSF.out W hW wF hg;have hgs:g≠sb:=fun e=>by
    subst e;rcases hor with h| h
    ·exact(HKF.out g h).2.1 rfl
    ·omega
   have hLW:=HHD.out.keep (fun b hb=>hW.block b (HHD.out.bd b hb).2) hW.size;have hLF:=hLW.key ho hg (fun b hb=>by
    have hb:g=b:=Option.some.inj hb;subst hb;rcases hor with h| h
    ·exact .inl h
    ·exact .inr (by omega))
   refine⟨⟨_,by rw[HK1.out.1,HK1.out.2];exact hLF.keep (fun b hb=>Below.heap_setCell _ _ _ _ (by
    rintro rfl;rcases hb with hb| hb
    ·exact hsb hb
    ·exact hgs (Option.some.inj hb))) (by simp),fun b hb=>?_⟩,aAC hs.2 off _,?_,HEX.out _ ?_⟩
   ·rcases hb with hb| hb
    ·exact .inl hb
    ·have hb:g=b:=Option.some.inj hb;subst hb;rcases hor with h| h
     ·exact .inl (HKF.out g h).1
     ·exact .inr (by omega)
   ·exact(((aBD.of_below (O:=fun b=>F b∨b=sb) HBD2.out).trans (aBD.of_below (O:=fun b=>F b∨b=sb) hW) (fun _ _ h=>h) fun _ _ h=>h).trans (aBD.grown (O:=fun b=>F b∨b=sb) hg fun b e _=>.inl (HKF.out b e).1) (fun _ _ h=>h) fun _ _ h=>h).set sb off _ (.inl (.inr rfl))
   ·exact(Below.heap_setCell _ _ _ _ (by show _≠sb;omega)).trans ((hg.block _ (by omega) fun e=>by have:=(HKF.out _ e.symm).2.2;omega).trans ((hW.block _ (by omega)).trans (HBD2.out.block _ (by omega))))
  clear bD;refine wp_region_held_drew (S:=(fun w'=>w'.cell? ⟨w.heap.size,0,none⟩=some (.string a)∧w'.cell? ⟨w.heap.size,1,none⟩=some (.string n))) (by kernel_rfl) (HC8.out _ (Below.refl _ _).drew) (fun hHeld=>?_)
  have bX:Below wD.heap.size wD wD.drew:=(Below.refl _ _).drew;generalize wD.drew=wq at*;refine tkH 0 hHeld ?_;refine tkH 1 hHeld ?_;refine tkH 2 hHeld ?_;refine tkH 3 hHeld ?_;refine tkH 5 hHeld ?_;repeat' (first
   |refine tkL 8 hHeld ?_
   |refine tkL 9 hHeld ?_
   |refine rdyL [4,6] (rcH (fun K hK=>tgH 4 ?_) (rcH (fun K hK=>tgH 6 ?_) AllReadyH.nil))
   |refine rdyL [6] (rcH (fun K hK=>tgH 6 ?_) AllReadyH.nil)
   |refine rdyL [7] (rcH (fun K hK=>tgH 7 ?_) AllReadyH.nil)
   |refine rdyL [10] (rcH (fun K hK=>tgH 10 ?_) AllReadyH.nil)
   |refine rdyL [4] (rcH (fun K hK=>tgH 4 ?_) AllReadyH.nil)
   |(refine fun(tag:Hid (4=4))=>?_
     clear tag;have hc:=HKC.out wq bX;go_simp
     clear hc;refine hK.out _ _ (HC8.out _ bX) (fun hHeld=>?_);clear hK K;try simp only[Act.put,sIA,sI0,sIS])
   |(refine fun(tag:Hid (6=6))=>?_
     clear tag;go_simp
     have bE:=aA2 wq (.cells #[.string a,.string n] 153);obtain⟨gE,hgE⟩:∃g,g=wq.heap.size:=⟨_,rfl⟩;have nE:=aA3 (w:=wq) (N:=gE) #[.string a,.string n] 153 hgE.symm;have bX:=bX.trans (bE.mono bX.size);refine hK.out _ _ (HC8.out _ bX) (fun hHeld=>?_);clear hK K;try simp only[Act.put,sIA,sI0,sIS]
     rw[<-hgE];generalize wq.alloc (.cells #[.string a,.string n] 153)=wn at*;clear hgE bE;generalize wn=wq at *)
   |(refine fun(tag:Hid (7=7))=>?_
     clear tag;refine step_append_lies _ rfl (.tmp 18) (.tmp 20) 138 rfl B 153 iK zK 2 32 Tryz.underlying138 hiK hK0 hK1 hK2 hKz (by decide) kv KL KS rfl (HKR.out wq bX) ⟨gE,0,none⟩ 1 1 [.string a,.string n] rfl rfl (World.news_of_block nE) (by intro u hu;simp at hu;rcases hu with rfl| rfl<;>rfl) (by omega) (by unfold maxLen;omega) (by omega) (by have:=bX.size;omega) _ rfl ?_
     intro gF capF wn oF hgF horF hltF;obtain⟨hsF,hbF⟩:=HSF.out wq bX wn hgF;have HAF:=aA0 (HEND1.out wq bX gF capF wn oF hgF horF);have HZF:=aA0 (aCW hbF HE0.out);clear oF hgF horF hbF;refine hK.out _ _ hsF (fun hHeld=>?_);clear hK K;try simp only[Act.put,sIA,sI0,sIS]
     generalize wn=wq at *)
   |(refine fun(tag:Hid (10=10))=>?_
     clear tag;obtain⟨hc,hz⟩:=HZF.out;go_simp
     clear hc hz;refine hK.out _ _ HAF.out.2.2.2 (fun hHeld=>?_);clear hK K;try simp only[Act.put,sIA,sI0,sIS]))
  all_goals
   refine wpAnyH_done (by kernel_rfl) ?_ _
   obtain⟨kv1,hkv1⟩:∃x,Hid (x=Value.slice (some ⟨gF,0,none⟩) (KL+1) capF):=⟨_,aA0 rfl⟩;obtain⟨w1,hw1⟩:∃x,x=wq.setCell ⟨sb,off,none⟩ (.slice (some ⟨gF,0,none⟩) (KL+1) capF):=⟨_,rfl⟩;rw[<-hw1];have HAG:=HAF.out;rw[<-hw1,<-hkv1.out] at HAG;obtain⟨q1,q2,q3,q4⟩:=HAG;have HL1:=aA0 q1;have HB1:=aA0 q2;have HO1:=aA0 q3;have HX1:=aA0 q4;clear q1 q2 q3 q4 hw1 HAF HZF hkv1 HKC HKR HKF HSF HEND1 HHD HBS HC8 HK1
  all_goals go_wp2_with fail
 case' inr=>
  have HK1:Hid (KL'=KL∧KS'=KS):=aA0 (by
   rcases hfst.out with h| h
   ·exact absurd h.1 hgl
   ·exact h.2)
  clear hgl;have hL0:¬(L:Int)=0:=by omega
  refine wp_region_held_drew (S:=(fun w'=>w'.cell? ⟨sb,off+1,none⟩=some (.map (some m))∧w'.cell? ⟨w.heap.size,0,none⟩=some (.string a)∧w'.cell? ⟨w.heap.size,1,none⟩=some (.string n))) (by kernel_rfl) (HC9.out _ (Below.refl _ _).drew) (fun hHeld=>?_)
  have bX:Below X.heap.size X X.drew:=(Below.refl _ _).drew;have HBD:=aA0 bX;generalize X.drew=wD at*;refine tkH 0 hHeld ?_;refine tkH 1 hHeld ?_;refine tkH 2 hHeld ?_;refine tkH 3 hHeld ?_;refine tkH 4 hHeld ?_;refine rdyH [5] ?_;refine rcH (fun K hK=>?_) AllReadyH.nil;have hlk:=HLK1.out wD bX;simp only[fk] at hlk;go_simp
  clear hlk;refine hK.out _ _ (HC9.out _ bX) (fun hHeld=>?_);clear hK K;try simp only[Act.put,sIA,sI0,sIS]
  refine tkH 6 hHeld ?_;refine tkH 7 hHeld ?_;refine wpAnyH_done (by kernel_rfl) ?_ _
  go_wp2_with fail
  obtain⟨kv1,hkv1⟩:∃x,Hid (x=kv):=⟨_,aA0 rfl⟩;obtain⟨w1,hw1⟩:∃x,x=wD:=⟨_,rfl⟩;have HL1:Hid (∃F1,Lst w1 F1 FKy B 153 2 3 1 kv1 m KL' KS' GL∧∀b,F1 b->F b∨X.heap.size<=b):=aA0 ⟨F,by rw[HK1.out.1,HK1.out.2,hkv1.out,hw1];exact HHX.out.keep (fun b hb=>bX.block b (HHX.out.bd b hb).2) bX.size,fun b hb=>.inl hb⟩
  have HB1:Hid (w1.heap[sb]?=some (.cells (cs.setIfInBounds off kv1) T (0,0))):=aA0 (by rw[hkv1.out,aJ0 HE0.out,hw1];exact(bX.block sb (by omega)).trans HBB.out)
  have HO1:Hid (aBD (fun b=>F b∨b=sb) X w1):=aA0 (by rw[hw1];exact aBD.of_below bX)
  have HX1:Hid (w1.cell? ⟨w.heap.size,0,none⟩=some (.string a)∧w1.cell? ⟨w.heap.size,1,none⟩=some (.string n)):=aA0 (by rw[hw1];exact(HC9.out _ bX).2)
  rw[<-hw1];clear hkv1 HK1 hL0 hL hw1 bX HBD
 all_goals
  obtain⟨F1,hL1,hF1⟩:=HL1.out;obtain⟨G,hO,hG⟩:=hL1.map;obtain⟨L1,hrow,-,hfp⟩:=hG.found (by decide) (fk a n)
  have hlen:=hrow.1;have hmlt:=hL1.mlt;have HGG:=aA0 hG;obtain⟨v1,hv1⟩:∃x,Hid (x=(G (fk a n)).getD (.slice none 0 0)):=⟨_,aA0 rfl⟩;rw[<-hv1.out] at hrow hfp;have hgl:=HGL.out;have hLn:L1<=1000000:=by omega
  have hfs:∀g,F1 g->g≠sb∧(g<w.heap.size∨X.heap.size<=g):=fun g hg=>by
   rcases hF1 g hg with h| h
   ·exact⟨fun e=>hsb (e▸h),.inl (HH.out.bd g h).2⟩
   ·exact⟨by omega,.inr h⟩
  have hm1:=hfs m hL1.mapF;have HRW:Hid (∀W,Below w1.heap.size w1 W->W.ownsRow B 3 1 v1 L1 (GL (fk a n))):=aA0 fun W hW=>aB2 hrow fun g hg=>hW.block g (hL1.bd g (hfp g hg)).2;have HOW:Hid (∀W,Below w1.heap.size w1 W->aDI W FKy m G):=aA0 fun W hW=>hO.of_block (hW.block m hmlt.2);have HLK:Hid (∀W,Below w1.heap.size w1 W->(Instr.lookup 142 (.map (some m)) (fk a n) false).run Tryz.prog W=.ok v1 W):=aA0 fun W hW=>by
   have h:=(HOW.out W hW).lookG false (keyF W) Tryz.underlying142 (aIU W) (x:=(fk a n)) ⟨_,_,rfl⟩;rw[hv1.out];simpa using h
  have hz1:=HO1.out.size;have HC0:Hid (∀W:World,W.heap[sb]?=w1.heap[sb]?->W.cell? ⟨sb,off+1,none⟩=some (.map (some m))):=aA0 fun W hW=>by
   refine(aCW (hW.trans HB1.out) ?_).1;rw[Array.getElem?_setIfInBounds_ne (by omega)]
   exact HE1.out
  have HCX:Hid (∀W:World,W.heap[w.heap.size]?=w1.heap[w.heap.size]?->W.cell? ⟨w.heap.size,0,none⟩=some (.string a)∧W.cell? ⟨w.heap.size,1,none⟩=some (.string n)):=aA0 fun W g0=>by
   have h:=HX1.out;exact⟨(World.cell?_of_block (a:=⟨w.heap.size,0,none⟩) g0).trans h.1,(World.cell?_of_block (a:=⟨w.heap.size,1,none⟩) g0).trans h.2⟩
  have HC1:Hid (∀W,Below w1.heap.size w1 W->W.cell? ⟨sb,off+1,none⟩=some (.map (some m))∧W.cell? ⟨w.heap.size,0,none⟩=some (.string a)∧W.cell? ⟨w.heap.size,1,none⟩=some (.string n)):=aA0 fun W hW=>⟨HC0.out W (hW.block sb (by omega)),HCX.out W (hW.block _ (by omega))⟩
  have HSF:Hid (∀W,Below w1.heap.size w1 W->∀wF,W.grownBy wF v1.ownBlock->(wF.cell? ⟨sb,off+1,none⟩=some (.map (some m))∧wF.cell? ⟨w.heap.size,0,none⟩=some (.string a)∧wF.cell? ⟨w.heap.size,1,none⟩=some (.string n))∧aDI wF FKy m G):=aA0 fun W hW wF hg=>by
   have hz:=hW.size;have hbl:∀b,b<w1.heap.size->¬F1 b->wF.heap[b]?=w1.heap[b]?:=fun b hb hn=>(hg.block b (by omega) fun e=>hn (hfp b e.symm)).trans (hW.block b hb)
   exact⟨⟨HC0.out wF (hbl sb (by omega) fun h=>(hfs sb h).1 rfl),HCX.out wF (hbl _ (by omega) fun h=>by have:=(hfs _ h).2;omega)⟩,(HOW.out W hW).of_block (hg.block m (by omega) fun e=>aCF hO hrow e.symm)⟩
  have HST:Hid (∀wF w2:World,wF.grownBy w2 (some m)->(wF.cell? ⟨sb,off+1,none⟩=some (.map (some m))∧wF.cell? ⟨w.heap.size,0,none⟩=some (.string a)∧wF.cell? ⟨w.heap.size,1,none⟩=some (.string n))->w2.cell? ⟨sb,off+1,none⟩=some (.map (some m))∧w2.cell? ⟨w.heap.size,0,none⟩=some (.string a)∧w2.cell? ⟨w.heap.size,1,none⟩=some (.string n)):=aA0 fun wF w2 hg hc=>⟨hg.cell hc.1 (fun e=>hm1.1 (Option.some.inj e).symm),hg.cell hc.2.1 (fun e=>by have:=hm1.2;have e:_=m:=Option.some.inj e;simp only at e;omega),hg.cell hc.2.2 (fun e=>by have:=hm1.2;have e:_=m:=Option.some.inj e;simp only at e;omega)⟩
  have HEND:Hid (∀W,Below w1.heap.size w1 W->∀(g cap:Nat) (wF:World),wF.ownsRow B 3 1 (.slice (some ⟨g,0,none⟩) (L1+1) cap) (L1+1) (GL (fk a n)++[.int .i64 x])->W.grownBy wF v1.ownBlock->(v1.ownBlock=some g∨g=W.heap.size)->∀(w2:World) (G2:Value->Option Value),aDI w2 FKy m G2->G2 (fk a n)=some (.slice (some ⟨g,0,none⟩) (L1+1) cap)->(∀y,y≠(fk a n)->G2 y=G y)->wF.grownBy w2 (some m)->aG8 w F FKy B 153 2 3 1 m sb off cs T KL' KS' GL' (.returned (.tuple #[])) w2):=aA0 fun W hW g cap wF ho hg hor w2 G2 q1 q2 q3 q4=>by
   have hz:=hW.size;have hzF:=hg.size;have hz2:=q4.size;have hLW:=hL1.keep (fun b hb=>hW.block b (hL1.bd b hb).2) hW.size;have hGW:Grps W F1 B 3 1 kv1 G GL:=⟨HGG.out.nil0,fun k v hk=>by
    obtain⟨L,h1,h2⟩:=HGG.out.row k v hk;exact⟨L,h1,aB2 h2 fun g hg=>hW.block g (hL1.bd g (HGG.out.fp k v g hk hg).1).2⟩,HGG.out.fp,HGG.out.apart⟩
   have hg':=hg;have hor':=hor;rw[hv1.out] at hg' hor';have hnb:∀b,(Value.slice (some ⟨g,0,none⟩) (L1+1) cap).ownBlock=some b->v1.ownBlock=some b∨W.heap.size<=b:=fun b hb=>by
    have hb:g=b:=Option.some.inj hb;subst hb;rcases hor with h| h
    ·exact .inl h
    ·exact .inr (by omega)
   have hnb':=hnb;rw[hv1.out] at hnb';have hP:=hLW.put (HOW.out W hW) hGW ho (Nat.succ_pos _) hg' hnb' q1 q2 q3 q4 he1.out he2.out;have hFw:∀b,F1 b->F b∨w.heap.size<=b:=fun b hb=>(hF1 b hb).imp id fun h=>by omega
   have hgs:∀b,(Value.slice (some ⟨g,0,none⟩) (L1+1) cap).ownBlock=some b->F b∨w.heap.size<=b:=fun b hb=>by
    rcases hnb b hb with h| h
    ·exact hFw b (hfp b h)
    ·exact .inr (by omega)
   refine⟨rfl,⟨_,_,hP,?_,fun b hb=>?_⟩,?_⟩
   ·refine(q4.block sb (by omega) fun e=>hm1.1 (Option.some.inj e).symm).trans ((hg.block sb (by omega) fun e=>(hfs sb (hfp sb e.symm)).1 rfl).trans ((hW.block sb (by omega)).trans HB1.out))
   ·rcases hb with hb| hb
    ·exact hFw b hb
    ·exact hgs b hb
   ·refine((aBD.of_below (O:=fun b=>F b∨b=sb) HBX.out).trans HO1.out (fun _ _ h=>h) fun _ _ h=>h).trans (((aBD.of_below (O:=fun b=>F1 b) hW).trans (aBD.grown (O:=fun b=>F1 b) hg fun b e _=>hfp b e) (fun _ _ h=>h) fun _ _ h=>h).trans (aBD.grown (O:=fun b=>F1 b) q4 fun b e _=>by cases e;exact hL1.mapF) (fun _ _ h=>h) fun _ _ h=>h) (fun _ _ h=>h) fun b hb h=>?_
    rcases hF1 b h with h| h
    ·exact .inl h
    ·omega
  clear hL1 hO hG hrow hlen hfp hfs hgl;refine wp_region_held_drew (S:=(fun w'=>w'.cell? ⟨sb,off+1,none⟩=some (.map (some m))∧w'.cell? ⟨w.heap.size,0,none⟩=some (.string a)∧w'.cell? ⟨w.heap.size,1,none⟩=some (.string n))) (by kernel_rfl) (HC1.out _ (Below.refl _ _).drew) (fun hHeld=>?_)
  have bX:Below w1.heap.size w1 w1.drew:=(Below.refl _ _).drew;generalize w1.drew=wD9 at*;refine tkH 0 hHeld ?_;refine tkH 1 hHeld ?_;refine tkH 2 hHeld ?_;refine tkH 3 hHeld ?_;refine tkH 4 hHeld ?_;refine tkH 5 hHeld ?_;refine tkH 6 hHeld ?_;refine tkH 7 hHeld ?_;refine tkH 8 hHeld ?_;refine tkH 9 hHeld ?_;refine tkH 11 hHeld ?_;refine rdyH [10,12] ?_;refine rcH (fun K hK=>?_) ?_
  ·have hlk:=HLK.out wD9 bX;simp only[fk] at hlk;go_simp
   clear hlk;refine hK.out _ _ (HC1.out _ bX) (fun hHeld=>?_);clear hK K;try simp only[Act.put,sIA,sI0,sIS]
   refine rdyH [12] ?_;refine rcH (fun K hK=>?_) AllReadyH.nil;go_simp
   have bE:=aA2 wD9 (.cells #[.int .i64 x] 3);obtain⟨gE,hgE⟩:∃g,g=wD9.heap.size:=⟨_,rfl⟩;have nE:=aA3 (w:=wD9) (N:=gE) #[.int .i64 x] 3 hgE.symm;have bX:=bX.trans (bE.mono bX.size);refine hK.out _ _ (HC1.out _ bX) (fun hHeld=>?_);clear hK K;try simp only[Act.put,sIA,sI0,sIS]
   rw[<-hgE];generalize wD9.alloc (.cells #[.int .i64 x] 3)=wE at*;clear hgE bE;refine rdyH [13] ?_;refine rcH (fun K hK=>?_) AllReadyH.nil;refine step_append_lies _ rfl (.tmp 34) (.tmp 36) 76 rfl B 3 i3 (.int .i64 0) 1 8 Tryz.underlying76 hi3 hy0 hy1 hy2 rfl (by decide) v1 L1 (GL (fk a n)) rfl (HRW.out wE bX) ⟨gE,0,none⟩ 1 1 [.int .i64 x] rfl rfl (World.news_of_block nE) (by intro u hu;simp at hu;rcases hu with rfl<;>rfl) (by omega) (by unfold maxLen;omega) (by omega) (by have:=bX.size;omega) _ rfl ?_
   intro gF capF wF oF hgF horF hltF;obtain⟨hsF,hOF⟩:=HSF.out wE bX wF hgF;have HAF:=aA0 (HEND.out wE bX gF capF wF oF hgF horF);have HOF:=aA0 hOF;clear oF hgF horF hOF;refine hK.out _ _ hsF (fun hHeld=>?_);clear hK K;try simp only[Act.put,sIA,sI0,sIS]
   refine rdyH [14] ?_;refine rcH (fun K hK=>?_) AllReadyH.nil;obtain⟨wT,G2,hrun,hG2,hGx,hGo,hgr⟩:=HOF.out.storeG (keyF _) Tryz.underlying142 (x:=(fk a n)) ⟨_,_,rfl⟩ (.slice (some ⟨gF,0,none⟩) (L1+1) capF);have HFN:=aA0 (HAF.out wT G2 hG2 hGx hGo hgr);have hsT:=HST.out wF wT hgr hsF;simp only[fk] at hrun;go_simp
   clear hrun hG2 hGx hGo hgr;refine hK.out _ _ hsT (fun hHeld=>?_);clear hK K;try simp only[Act.put,sIA,sI0,sIS]
   refine wpAnyH_done (by kernel_rfl) ?_ _
   go_wp2_with fail
   refine bodyPost_end (v:=.tuple #[]) ?res rfl HFN.out;case res=>simp[results,Tryz.results146,go_sem]
  refine rcH (fun K hK=>?_) AllReadyH.nil;go_simp
  have bE:=aA2 wD9 (.cells #[.int .i64 x] 3);obtain⟨gE,hgE⟩:∃g,g=wD9.heap.size:=⟨_,rfl⟩;have nE:=aA3 (w:=wD9) (N:=gE) #[.int .i64 x] 3 hgE.symm;have bX:=bX.trans (bE.mono bX.size);refine hK.out _ _ (HC1.out _ bX) (fun hHeld=>?_);clear hK K;try simp only[Act.put,sIA,sI0,sIS]
  rw[<-hgE];generalize wD9.alloc (.cells #[.int .i64 x] 3)=wE at*;clear hgE bE;refine rdyH [10] ?_;refine rcH (fun K hK=>?_) AllReadyH.nil;have hlk:=HLK.out wE bX;simp only[fk] at hlk;go_simp
  clear hlk;refine hK.out _ _ (HC1.out _ bX) (fun hHeld=>?_);clear hK K;try simp only[Act.put,sIA,sI0,sIS]
  refine rdyH [13] ?_;refine rcH (fun K hK=>?_) AllReadyH.nil;refine step_append_lies _ rfl (.tmp 34) (.tmp 36) 76 rfl B 3 i3 (.int .i64 0) 1 8 Tryz.underlying76 hi3 hy0 hy1 hy2 rfl (by decide) v1 L1 (GL (fk a n)) rfl (HRW.out wE bX) ⟨gE,0,none⟩ 1 1 [.int .i64 x] rfl rfl (World.news_of_block nE) (by intro u hu;simp at hu;rcases hu with rfl<;>rfl) (by omega) (by unfold maxLen;omega) (by omega) (by have:=bX.size;omega) _ rfl ?_
  intro gF capF wF oF hgF horF hltF;obtain⟨hsF,hOF⟩:=HSF.out wE bX wF hgF;have HAF:=aA0 (HEND.out wE bX gF capF wF oF hgF horF);have HOF:=aA0 hOF;clear oF hgF horF hOF;refine hK.out _ _ hsF (fun hHeld=>?_);clear hK K;try simp only[Act.put,sIA,sI0,sIS]
  refine rdyH [14] ?_;refine rcH (fun K hK=>?_) AllReadyH.nil;obtain⟨wT,G2,hrun,hG2,hGx,hGo,hgr⟩:=HOF.out.storeG (keyF _) Tryz.underlying142 (x:=(fk a n)) ⟨_,_,rfl⟩ (.slice (some ⟨gF,0,none⟩) (L1+1) capF);have HFN:=aA0 (HAF.out wT G2 hG2 hGx hGo hgr);have hsT:=HST.out wF wT hgr hsF;simp only[fk] at hrun;go_simp
  clear hrun hG2 hGx hGo hgr;refine hK.out _ _ hsT (fun hHeld=>?_);clear hK K;try simp only[Act.put,sIA,sI0,sIS]
  refine wpAnyH_done (by kernel_rfl) ?_ _
  go_wp2_with fail
  refine bodyPost_end (v:=.tuple #[]) ?res rfl HFN.out;case res=>simp[results,Tryz.results146,go_sem]
end Go.Proofs.YtcebpkeiaiiphaaGreatDoor
namespace Go.Proofs.YtcebpkeiaiiphaaGreatDoor
open Go.RowKit
def aF4(t:T)(k:Nat):ByteArray:=t.name++⟨#[46]⟩++(fth t.fields k).name
def brF(t o:T):Nat->List ByteArray
 |0=>[]
 |k+1=>brF t o k++(if(!(fth t.fields k).hidden&&!aH2 (fth t.fields k) o)=true then[aF4 t k] else[])
def brT(p q:Pt):Nat->List ByteArray
 |0=>[]
 |i+1=>brT p q i++brF (tth p.types i) (aA5 q (tth p.types i).name) (tth p.types i).fields.length
def aD4(p q:Pt):List ByteArray:=if(okP p&&okP q)=true then brT p q p.types.length else[]
theorem aLJ(t o:T):∀k,(brF t o k).length<=k
 |0=>by simp[brF]
 |k+1=>by
  have:=aLJ t o k;rw[brF,List.length_append];split<;>simp<;>omega
theorem aJJ(p q:Pt):∀i,(brT p q i).length<=aB1 p.types i
 |0=>by simp[brT]
 |i+1=>by
  have h1:=aJJ p q i;have h2:=aLJ (tth p.types i) (aA5 q (tth p.types i).name) (tth p.types i).fields.length;have h3:szT (tth p.types i)=(tth p.types i).name.size+(tth p.types i).key.size+((tth p.types i).fields.length+aBE (tth p.types i).fields (tth p.types i).fields.length):=rfl;rw[brT,List.length_append,aB8];omega
theorem aQA(fs:List F)(h:szFs fs<=1048576)(j:Nat):(fth fs j).name.size<=1048576:=by
 by_cases hj:j<fs.length
 ·have h1:=aJA fs (j+1) fs.length hj;rw[aC0] at h1;have h2:(fth fs j).name.size<=szF (fth fs j):=by simp only[szF];omega
  have h3:szFs fs=fs.length+aBE fs fs.length:=rfl;omega
 ·have:fth fs j=F.zero:=by simp[fth,List.getD_eq_getElem?_getD,List.getElem?_eq_none (Nat.le_of_not_lt hj)]
  rw[this];simp[F.zero]
theorem aNJ(ts:List T)(h:szTs ts<=1048576)(i:Nat):(tth ts i).name.size<=1048576:=by
 by_cases hi:i<ts.length
 ·have h1:=aD8 ts (i+1) ts.length hi;rw[aB8] at h1;have h2:szT (tth ts i)=(tth ts i).name.size+(tth ts i).key.size+szFs (tth ts i).fields:=rfl;have h3:szTs ts=ts.length+aB1 ts ts.length:=rfl;omega
 ·have:tth ts i=T.zero:=by simp[tth,List.getD_eq_getElem?_getD,List.getElem?_eq_none (Nat.le_of_not_lt hi)]
  rw[this];simp[T.zero]
theorem aGK(p:Pt)(hz:szP p<=1048576)(i k:Nat):(aF4 (tth p.types i) k).size<=2097153:=by
 have hs:szTs p.types<=1048576:=by have:szP p=p.name.size+szTs p.types:=rfl;omega
 have h1:=aNJ p.types hs i;have h2:=aQA _ (aM7 p.types hs i) k;rw[aF4,ByteArray.size_append,ByteArray.size_append];have:(⟨#[46]⟩:ByteArray).size=1:=rfl;omega
theorem aM5(p:Pt)(hz:szP p<=1048576)(i:Nat)(o:T):∀k,∀x∈ brF (tth p.types i) o k,x.size<=2097153
 |0,x,h=>by simp[brF] at h
 |k+1,x,h=>by
  rw[brF,List.mem_append] at h;rcases h with h| h
  ·exact aM5 p hz i o k x h
  ·split at h
   ·simp at h;subst h;exact aGK p hz i k
   ·simp at h
theorem aIK(p q:Pt)(hz:szP p<=1048576):∀i,∀x∈ brT p q i,x.size<=2097153
 |0,x,h=>by simp[brT] at h
 |i+1,x,h=>by
  rw[brT,List.mem_append] at h;rcases h with h| h
  ·exact aIK p q hz i x h
  ·exact aM5 p hz i _ _ x h
theorem aRW{ns:List ByteArray}(h:∀x∈ ns,x.size<=2097153)(i:Nat):(nth ns i).size<=maxLen:=by
 unfold maxLen;by_cases hi:i<ns.length
 ·have:nth ns i=ns[i]:=by simp[nth,List.getD_eq_getElem?_getD,hi]
  rw[this];have:=h _ (List.getElem_mem hi);omega
 ·have:nth ns i=ByteArray.empty:=by simp[nth,List.getD_eq_getElem?_getD,List.getElem?_eq_none (Nat.le_of_not_lt hi)]
  rw[this];simp
def aCA(w w':World)(ns:List ByteArray)(e:Ending):Prop:=∃(a:Option Addr) (c:Nat),e=.returned (.slice a ns.length c)∧ns.length<=c∧Below w.heap.size w w'∧Strs w' (fun b=>w.heap.size<=b∧b<w'.heap.size) ns a∧aNO w' w.heap.size w'.heap.size ns.length a
theorem aCA.nil{w w':World}(hb:Below w.heap.size w w'):aCA w w' [] (.returned (.slice none 0 0)):=
 ⟨none,0,rfl,by simp,hb,⟨fun h=>absurd rfl h,fun i=>by simp[nth],by simp⟩,fun h=>by simp at h⟩
theorem aCA.own{w w':World}{ns:List ByteArray}{v:Value}{base:Nat}(hb:Below w.heap.size w w')(h1:w.heap.size<=base)(h:w'.ownsRow base 9 1 v ns.length (ns.map Value.string))(h2:∀x∈ ns,x.size<=2097153)(h3:ns.length<=1048576):aCA w w' ns (.returned v):=by
 rcases h.2 with⟨rfl,hn⟩| ⟨g,cap,cur,rfl,hg,hh,hn,-⟩
 ·have:ns=[]:=by simpa using hn
  subst this;exact aCA.nil hb
 ·have hlt:g<w'.heap.size:=by
   rcases Nat.lt_or_ge g w'.heap.size with h| h
   ·exact h
   ·simp[Array.getElem?_eq_none h] at hh
  obtain⟨hS,hc,hW⟩:=aGD h (aRW h2) (by unfold maxLen;omega) hlt
  exact⟨_,_,rfl,hc,hb,hS.sub fun k hk=>⟨by omega,hk.2⟩,hW.wide h1 (Nat.le_refl _)⟩
end Go.Proofs.YtcebpkeiaiiphaaGreatDoor
