import Derived.Test.YtcebpkeiaiiphaaGreatDoorRB34
set_option linter.unusedSimpArgs false
set_option linter.unusedVariables false
namespace Go.Proofs.YtcebpkeiaiiphaaGreatDoor
open Go.RowKit Go.Maps
structure FrmR(base N:Nat)(w X:World)(M:Nat)(sv wv:Value)(W:World):Prop where
 old:Below base w W
 size:X.heap.size≤W.heap.size
 blk:∀b,N≤b→b<X.heap.size→W.heap[b]?=X.heap[b]?
 rS:∀g,sv.ownBlock=some g→base≤g∧(g<N∨X.heap.size≤g)
 rW:∀g,wv.ownBlock=some g→base≤g∧(g<N∨X.heap.size≤g)
 mN:M<N
 mB:base≤M
 nX:N≤X.heap.size
variable {base N M:Nat} {w X W:World} {sv wv:Value}
theorem FrmR.keep{W':World}(h:FrmR base N w X M sv wv W)(hb:Below W.heap.size W W'):FrmR base N w X M sv wv W':=by
 have h1:=h.mN;have h2:=h.mB;have h3:=h.nX;have h4:=h.size
 exact⟨h.old.trans (hb.mono (by omega)),Nat.le_trans h.size hb.size,fun b hb1 hb2=>(hb.block b (by omega)).trans (h.blk b hb1 hb2),h.rS,h.rW,h1,h2,h3⟩
theorem FrmR.setM(h:FrmR base N w X M sv wv W)(j:Nat)(v:Value):FrmR base N w X M sv wv (W.setCell ⟨M,j,none⟩ v):=
 ⟨h.old.setCell (p:=⟨M,j,none⟩) h.mB v,by rw[aBQ];exact h.size,fun b hb1 hb2=>(Below.heap_setCell _ _ _ _ (by have:=h.mN;show b≠M;omega)).trans (h.blk b hb1 hb2),h.rS,h.rW,h.mN,h.mB,h.nX⟩
theorem FrmR.grS{wF:World}{sv':Value}(h:FrmR base N w X M sv wv W)(hg:W.grownBy wF sv.ownBlock)(hn:∀g,sv'.ownBlock=some g→sv.ownBlock=some g∨g=W.heap.size):FrmR base N w X M sv' wv wF:=by
 have h1:=h.mN;have h2:=h.mB;have h3:=h.nX;have h4:=h.size
 refine⟨h.old.grown hg (by omega) fun b hb=>(h.rS b hb).1,Nat.le_trans h.size hg.size,fun b hb1 hb2=>(hg.block b (by omega) fun e=>?_).trans (h.blk b hb1 hb2),fun g e=>?_,h.rW,h1,h2,h3⟩
 ·have:=(h.rS b e.symm).2;omega
 ·rcases hn g e with e1| e1
  ·exact h.rS g e1
  ·omega
theorem FrmR.grW{wF:World}{wv':Value}(h:FrmR base N w X M sv wv W)(hg:W.grownBy wF wv.ownBlock)(hn:∀g,wv'.ownBlock=some g→wv.ownBlock=some g∨g=W.heap.size):FrmR base N w X M sv wv' wF:=by
 have h1:=h.mN;have h2:=h.mB;have h3:=h.nX;have h4:=h.size
 refine⟨h.old.grown hg (by omega) fun b hb=>(h.rW b hb).1,Nat.le_trans h.size hg.size,fun b hb1 hb2=>(hg.block b (by omega) fun e=>?_).trans (h.blk b hb1 hb2),h.rS,fun g e=>?_,h1,h2,h3⟩
 ·have:=(h.rW b e.symm).2;omega
 ·rcases hn g e with e1| e1
  ·exact h.rW g e1
  ·omega
section
variable {ss:List Sta} {wy:List (List ByteArray)} {bad:List ByteArray} {bv:Value} {WV:List Value}
theorem aV7{wF:World}(hk:WkM base M ss wy bad sv wv bv WV W)(h:FrmR base N w X M sv wv W){x:Sta}{sv':Value}(ho:wF.ownsRow base 72 2 sv' (ss.length+1) (aDX ss++aKY x))(hg:W.grownBy wF sv.ownBlock)(hn:∀g,sv'.ownBlock=some g→sv.ownBlock=some g∨g=W.heap.size):
  (wF.cell? ⟨M,0,none⟩=some sv∧wF.frozen? ⟨M,0,none⟩=false)∧WkM base M (ss++[x]) wy bad sv' wv bv WV (wF.setCell ⟨M,0,none⟩ sv')∧FrmR base N w X M sv' wv (wF.setCell ⟨M,0,none⟩ sv'):=by
 have h1:=(hg.block M hk.mlt fun e=>hk.mS e.symm).trans hk.box
 exact⟨⟨(aA1 h1 0 (by simp)).1,(aA1 h1 0 (by simp)).2⟩,hk.pushS ho hg hn,(h.grS hg hn).setM 0 sv'⟩
theorem aV0{wF:World}(hk:WkM base M ss wy bad sv wv bv WV W)(h:FrmR base N w X M sv wv W){way:List ByteArray}{a:Option Addr}{c:Nat}(hS:Strs W (OffR base M sv wv W) way a){wv':Value}(ho:wF.ownsRow base 33 1 wv' (wy.length+1) (WV++[.slice a way.length c]))(hg:W.grownBy wF wv.ownBlock)(hn:∀g,wv'.ownBlock=some g→wv.ownBlock=some g∨g=W.heap.size):
  (wF.cell? ⟨M,1,none⟩=some wv∧wF.frozen? ⟨M,1,none⟩=false)∧WkM base M ss (wy++[way]) bad sv wv' bv (WV++[.slice a way.length c]) (wF.setCell ⟨M,1,none⟩ wv')∧FrmR base N w X M sv wv' (wF.setCell ⟨M,1,none⟩ wv'):=by
 have h1:=(hg.block M hk.mlt fun e=>hk.mW e.symm).trans hk.box
 exact⟨⟨(aA1 h1 1 (by simp)).1,(aA1 h1 1 (by simp)).2⟩,hk.pushW hS ho hg hn,(h.grW hg hn).setM 1 wv'⟩
theorem WkM.cells(h:WkM base M ss wy bad sv wv bv WV W):W.cell? ⟨M,0,none⟩=some sv∧W.cell? ⟨M,1,none⟩=some wv∧W.cell? ⟨M,2,none⟩=some bv∧W.frozen? ⟨M,2,none⟩=false:=
 ⟨(aA1 h.box 0 (by simp)).1,(aA1 h.box 1 (by simp)).1,(aA1 h.box 2 (by simp)).1,(aA1 h.box 2 (by simp)).2⟩
end
theorem aH0{w:World}{N:Nat}{T:TypeId}{a0 a1 a2:Value}(hb:w.heap[N]?=some (.cells #[a0,a1,a2] T (0,0)))(v0 v1 v2:Value):
  (((w.setCell ⟨N,0,none⟩ v0).setCell ⟨N,1,none⟩ v1).setCell ⟨N,2,none⟩ v2).heap[N]?=some (.cells #[v0,v1,v2] T (0,0)):=by
 simpa using aAB (aAB (aAB hb 0 v0) 1 v1) 2 v2
theorem Wk.fld_wy(ps:List Pt)(s:Sta)(way:List ByteArray)(K:Wk)(f:F):K.wy<+:(K.fld ps s way f).wy:=by
 unfold Wk.fld
 split
 ·exact List.prefix_refl _
 split
 ·split
  ·exact List.prefix_refl _
  split
  ·exact List.prefix_refl _
  ·exact List.prefix_append _ _
 ·exact List.prefix_refl _
theorem Wk.flds_wy(ps:List Pt)(s:Sta)(way:List ByteArray)(fs:List F)(K:Wk):∀k,K.wy<+:(K.flds ps s way fs k).wy
 |0=>List.prefix_refl _
 |k+1=>(Wk.flds_wy ps s way fs K k).trans (Wk.fld_wy ps s way _ _)
theorem aKA{a b:List (List ByteArray)}(h:a<+:b){i:Nat}(hi:i<a.length):wth b i=wth a i:=by
 obtain⟨r,rfl⟩:=h
 simp[wth,List.getD_eq_getElem?_getD,List.getElem?_append_left hi]
theorem aPL{a b:List Sta}(h:a<+:b){i:Nat}(hi:i<a.length):sta b i=sta a i:=by
 obtain⟨r,rfl⟩:=h
 simp[sta,List.getD_eq_getElem?_getD,List.getElem?_append_left hi]
theorem aTT:(Tryz.prog.info? 72).map (fun i=>(i.zero,i.size,i.bytes))=some (some (.agg #[.int .i64 0,.string ByteArray.empty]),2,24):=by kernel_rfl
theorem aV3:(Tryz.prog.info? 33).map (fun i=>(i.zero,i.size,i.bytes))=some (some (.slice none 0 0),1,24):=by kernel_rfl
theorem aRK:(Tryz.prog.info? 9).map (fun i=>(i.zero,i.size,i.bytes))=some (some (.string ByteArray.empty),1,16):=by kernel_rfl
end Go.Proofs.YtcebpkeiaiiphaaGreatDoor
namespace Go.Proofs.YtcebpkeiaiiphaaGreatDoor
open Go.RowKit Go.Maps Go.MapKept
def stC(st:List Sta)(x:Sta):List Sta:=if 0≤aCH st x then st else st++[x]
def wyC(st:List Sta)(wy:List (List ByteArray))(x:Sta)(way:List ByteArray):List (List ByteArray):=if 0≤aCH st x then wy else wy++[way]
def aL7(base N m:Nat)(c0 c1 c2:Value)(st:List Sta)(wy:List (List ByteArray))(sv:Value)(x:Sta)(way:List ByteArray)(w:World)(e:Ending)(w':World):Prop:=
 e=.returned (.tuple #[])∧∃sv',RcI base N m c0 c1 c2 (stC st x) (wyC st wy x way) sv' w'∧ChgP N m sv w w'∧∀g,sv'.ownBlock=some g→sv.ownBlock=some g∨w.heap.size≤g
theorem RcB.map{base N m:Nat}{c0 c1 c2 sv:Value}{st:List Sta}{w wT:World}(h:RcB base N m c0 c1 c2 st sv w)(hg:w.grownBy wT (some m)):RcB base N m c0 c1 c2 st sv wT:=
 ⟨(hg.block N h.lN fun e=>h.nM (Option.some.inj e)).trans h.box,aB1 h.srow fun g e=>hg.block g (h.srow.lt g e).2 fun e2=>h.mM (by rw[e,e2]),h.mS,h.mM,h.nM,h.bN,h.bm,Nat.lt_of_lt_of_le h.lm hg.size⟩
theorem ChgP.trans0{N m:Nat}{sv:Value}{w w1 w2:World}(h:Below w.heap.size w w1)(k:ChgP N m sv w1 w2):ChgP N m sv w w2:=
 ⟨k.os.trans h.os,k.tape.trans h.tape,k.output.trans h.output,Nat.le_trans h.size k.size,fun b h1 h2 h3 h4=>(k.block b (Nat.lt_of_lt_of_le h1 h.size) h2 h3 h4).trans (h.block b h1)⟩
set_option maxRecDepth 20000 in
set_option maxHeartbeats 1600000 in
theorem aOU(base N m:Nat)(c0 c1 c2:Value)(st:List Sta)(wy:List (List ByteArray))(sv:Value)(x:Sta)(way:List ByteArray)(a:Option Addr)(c:Nat)(w:World)(h:RcI base N m c0 c1 c2 st wy sv w)(hS:Strs w (OffP base N m sv w) way a)(hl:st.length≤1000):
  Calls Tryz.prog 54 #[.pointer (some ⟨N,0,none⟩),.agg #[.int .i64 x.part,.string x.type],.slice a way.length c] w (aL7 base N m c0 c1 c2 st wy sv x way w):=by
 have hbN:=h.b.bN
 have HBS:Hid (base≤w.heap.size):=aA0 (by have:=h.b.lN;omega)
 have HSI:=aA0 (aKP (ss:=st) (x:=x))
 have HSC:Hid (stC st x=if 0≤aCH st x then st else st++[x]):=aA0 rfl
 have HWC:Hid (wyC st wy x way=if 0≤aCH st x then wy else wy++[way]):=aA0 rfl
 have HH:=aA0 h
 have HSS:=aA0 hS
 have HROW:Hid (∀g,sv.ownBlock=some g→g<w.heap.size):=aA0 fun g e=>(h.b.srow.lt g e).2
 have HNL:Hid (N<w.heap.size∧m<w.heap.size):=aA0 ⟨h.b.lN,h.b.lm⟩
 obtain⟨xp,xt⟩:=x
 simp only at*
 have bX:=aA2 w (.cells #[.int .i64 xp,.string xt] 72)
 have nX:=aA3 (w:=w) (N:=w.heap.size) #[.int .i64 xp,.string xt] 72 rfl
 have zX:w.heap.size<(w.alloc (.cells #[.int .i64 xp,.string xt] 72)).heap.size:=by simp
 clear h hS hbN
 go_enter Tryz.func54,Tryz.ntmps54
 go_upto_region 1 with fail
 generalize w.alloc (.cells #[.int .i64 xp,.string xt] 72)=X at*
 have HX:Hid (∀W,Below X.heap.size X W→(W.cell? ⟨w.heap.size,0,none⟩=some (.int .i64 xp)∧W.cell? ⟨w.heap.size,1,none⟩=some (.string xt))∧RcI base N m c0 c1 c2 st wy sv W∧Below w.heap.size w W):=aA0 fun W hW=>by
  have h:=(hW.block w.heap.size zX).trans nX
  have hb:=bX.trans (hW.mono bX.size)
  exact⟨⟨(aA1 h 0 (by simp)).1,(aA1 h 1 (by simp)).1⟩,HH.out.keep hb,hb⟩
 have HZX:=aA0 zX
 have bXX:Below X.heap.size X X.drew:=(Below.refl _ _).drew
 clear bX nX zX HH
 have HS1:Hid (∀W,Below X.heap.size X W→(W.cell? ⟨w.heap.size,0,none⟩=some (.int .i64 xp)∧W.cell? ⟨w.heap.size,1,none⟩=some (.string xt))∧W.cell? ⟨N,4,none⟩=some (.map (some m))):=aA0 fun W hW=>⟨(HX.out W hW).1,(HX.out W hW).2.1.b.cells.2.2⟩
 by_cases hx:(⟨xp,xt⟩:Sta)∈ st
 ·have hsi:=HSI.out.2 hx
  have HE:Hid (stC st ⟨xp,xt⟩=st∧wyC st wy ⟨xp,xt⟩ way=wy):=aA0 ⟨by rw[HSC.out,if_pos hsi],by rw[HWC.out,if_pos hsi]⟩
  clear HSI HSC HWC hsi
  obtain⟨la,lc,lw,-,-,hlk⟩:=((HX.out _ bXX).2.1.look ⟨xp,xt⟩).1 hx
  replace hlk:=hlk true
  simp only[if_true] at hlk
  generalize lw.length=lwl at*
  refine wp_region_held_drew (S:=(fun W=>(W.cell? ⟨w.heap.size,0,none⟩=some (.int .i64 xp)∧W.cell? ⟨w.heap.size,1,none⟩=some (.string xt))∧W.cell? ⟨N,4,none⟩=some (.map (some m)))) (by kernel_rfl) (HS1.out _ bXX) (fun hHeld=>?_)
  refine tkH 0 hHeld ?_
  refine tkH 1 hHeld ?_
  refine tkH 2 hHeld ?_
  refine tkH 3 hHeld ?_
  refine tkH 4 hHeld ?_
  refine rdyH [5] ?_
  refine rcH (fun K hK=>?_) AllReadyH.nil
  go_simp
  clear hlk
  refine hK.out _ _ (HS1.out _ bXX) (fun hHeld=>?_)
  clear hK K
  try simp only[Act.put,sIA,sI0,sIS]
  refine tkH 6 hHeld ?_
  refine tkH 7 hHeld ?_
  refine tkH 8 hHeld ?_
  refine tkH 9 hHeld ?_
  refine tkH 10 hHeld ?_
  refine wpAnyH_done (by kernel_rfl) ?_ _
  have HFIN:Hid (aL7 base N m c0 c1 c2 st wy sv ⟨xp,xt⟩ way w (.returned (.tuple #[])) X.drew):=aA0 ⟨rfl,sv,by rw[HE.out.1,HE.out.2];exact(HX.out _ bXX).2.1,ChgP.of_below (HX.out _ bXX).2.2,fun g e=>.inl e⟩
  go_wp2_with fail
  first
   |exact bodyPost_end (v:=.tuple #[]) (by simp[results,Tryz.results54,go_sem]) rfl HFIN.out
   |exact bodyPost_ret (v:=.tuple #[]) (by simp[results,Tryz.results54,go_sem]) rfl HFIN.out
 ·have hsi:¬0≤aCH st ⟨xp,xt⟩:=fun e=>hx (HSI.out.1 e)
  have HE:Hid (stC st ⟨xp,xt⟩=st++[⟨xp,xt⟩]∧wyC st wy ⟨xp,xt⟩ way=wy++[way]):=aA0 ⟨by rw[HSC.out,if_neg hsi],by rw[HWC.out,if_neg hsi]⟩
  clear HSI HSC HWC hsi
  have hlk:=((HX.out _ bXX).2.1.look ⟨xp,xt⟩).2 hx
  refine wp_region_held_drew (S:=(fun W=>(W.cell? ⟨w.heap.size,0,none⟩=some (.int .i64 xp)∧W.cell? ⟨w.heap.size,1,none⟩=some (.string xt))∧W.cell? ⟨N,4,none⟩=some (.map (some m)))) (by kernel_rfl) (HS1.out _ bXX) (fun hHeld=>?_)
  generalize X.drew=wD at*
  refine tkH 0 hHeld ?_
  refine tkH 1 hHeld ?_
  refine tkH 2 hHeld ?_
  refine tkH 3 hHeld ?_
  refine tkH 4 hHeld ?_
  refine rdyH [5] ?_
  refine rcH (fun K hK=>?_) AllReadyH.nil
  go_simp
  clear hlk
  refine hK.out _ _ (HS1.out _ bXX) (fun hHeld=>?_)
  clear hK K
  try simp only[Act.put,sIA,sI0,sIS]
  refine tkH 6 hHeld ?_
  refine tkH 7 hHeld ?_
  refine tkH 8 hHeld ?_
  refine tkH 9 hHeld ?_
  refine tkH 10 hHeld ?_
  refine wpAnyH_done (by kernel_rfl) ?_ _
  have bXY:=bXX
  go_upto_region 3 with fail
  have bYY:=bXY.drew
  refine wp_region_held_drew (S:=(fun W=>(W.cell? ⟨w.heap.size,0,none⟩=some (.int .i64 xp)∧W.cell? ⟨w.heap.size,1,none⟩=some (.string xt))∧W.cell? ⟨N,4,none⟩=some (.map (some m)))) (by kernel_rfl) (HS1.out _ bYY) (fun hHeld=>?_)
  generalize wD.drew=wY at*
  refine tkH 0 hHeld ?_
  refine tkH 1 hHeld ?_
  refine tkH 2 hHeld ?_
  refine tkH 3 hHeld ?_
  refine tkH 4 hHeld ?_
  refine tkH 5 hHeld ?_
  refine rdyH [6] ?_
  refine rcH (fun K hK=>?_) AllReadyH.nil
  obtain⟨G,hO,hWM⟩:=(HX.out wY bYY).2.1.map
  obtain⟨wT,G2,hrun,hG2,hGx,hGo,hgr⟩:=hO.storeG (aUN _) Tryz.underlying64 (x:=skS ⟨xp,xt⟩) ⟨_,_,rfl⟩ (.slice a way.length c)
  simp only[skS,sk] at hrun
  have HTT:=aA0 (And.intro (And.intro hO hWM) (And.intro hG2 (And.intro hGx (And.intro hGo hgr))))
  have HTS:Hid (∀W,Below wT.heap.size wT W→(W.cell? ⟨w.heap.size,0,none⟩=some (.int .i64 xp)∧W.cell? ⟨w.heap.size,1,none⟩=some (.string xt))∧RcB base N m c0 c1 c2 st sv W):=aA0 fun W hW=>by
   have hz:=HZX.out;have hn:=HNL.out;have hs:=hgr.size;have hy:=bYY.size
   have hb:=(hW.block w.heap.size (by omega)).trans (hgr.block w.heap.size (by omega) fun e=>by have:=Option.some.inj e;omega)
   exact⟨⟨(World.cell?_of_block (a:=⟨w.heap.size,0,none⟩) hb).trans (HX.out wY bYY).1.1,(World.cell?_of_block (a:=⟨w.heap.size,1,none⟩) hb).trans (HX.out wY bYY).1.2⟩,((HX.out wY bYY).2.1.b.map hgr).keep hW⟩
  clear hO hWM hG2 hGx hGo hgr
  go_simp
  clear hrun
  refine hK.out _ _ (by have hq:=HTS.out wT (Below.refl _ _);exact⟨hq.1,hq.2.cells.2.2⟩) (fun hHeld=>?_)
  clear hK K
  try simp only[Act.put,sIA,sI0,sIS]
  refine wpAnyH_done (by kernel_rfl) ?_ _
  go_upto_region 4 with fail
  refine wp_region_held_drew (S:=(fun W=>W.cell? ⟨w.heap.size,0,none⟩=some (.int .i64 xp)∧W.cell? ⟨w.heap.size,1,none⟩=some (.string xt))) (by kernel_rfl) (HTS.out _ (Below.refl _ _).drew).1 (fun hHeld=>?_)
  have bV:Below wT.heap.size wT wT.drew:=(Below.refl _ _).drew
  generalize wT.drew=wV at*
  obtain⟨iS,hiS,hS0,hS1,hS2⟩:=info_parts aTT
  obtain⟨n,hn⟩:∃n,n=st.length:=⟨_,rfl⟩
  have hnl:n≤1000:=by omega
  have HNN:=aA0 hn
  have HBV:Hid (base≤wT.heap.size):=aA0 (by have h1:=HBS.out;have h2:=HTT.out.2.2.2.2.size;have h3:=(HX.out wY bYY).2.2.size;omega)
  have HX4:Hid (∀W,Below wT.heap.size wT W→∀wF,W.grownBy wF sv.ownBlock→(wF.cell? ⟨w.heap.size,0,none⟩=some (.int .i64 xp)∧wF.cell? ⟨w.heap.size,1,none⟩=some (.string xt))∧∀v,(wF.setCell ⟨N,3,none⟩ v).cell? ⟨w.heap.size,0,none⟩=some (.int .i64 xp)∧(wF.setCell ⟨N,3,none⟩ v).cell? ⟨w.heap.size,1,none⟩=some (.string xt)):=aA0 fun W hW wF hg=>by
   have hz:=HZX.out;have hs:=HTT.out.2.2.2.2.size;have hy:=bYY.size;have h2:=hW.size;have h3:=HNL.out
   have hb:=hg.block w.heap.size (by omega) fun e=>by have:=HROW.out _ e.symm;omega
   have p0:=(World.cell?_of_block (a:=⟨w.heap.size,0,none⟩) hb).trans (HTS.out W hW).1.1
   have p1:=(World.cell?_of_block (a:=⟨w.heap.size,1,none⟩) hb).trans (HTS.out W hW).1.2
   exact⟨⟨p0,p1⟩,fun v=>⟨(World.cell?_setCell_other _ _ _ _ (by intro e;simp only[Addr.mk.injEq] at e;omega)).trans p0,(World.cell?_setCell_other _ _ _ _ (by intro e;simp only[Addr.mk.injEq] at e;omega)).trans p1⟩⟩
  have HSY:Hid (Strs wY (OffP base N m sv wY) way a):=aA0 ((HSS.out.mono fun b hb=>(HX.out wY bYY).2.2.block b hb.2.1).sub fun b hb=>⟨hb.1,Nat.lt_of_lt_of_le hb.2.1 (HX.out wY bYY).2.2.size,hb.2.2⟩)
  clear hn hl
  refine tkH 0 hHeld ?_
  refine tkH 1 hHeld ?_
  refine tkH 2 hHeld ?_
  refine tkH 3 hHeld ?_
  refine tkH 5 hHeld ?_
  refine rdyH [4,6] ?_
  refine rcH (fun K hK=>?_) ?_
  ·have hc:=(HTS.out wV bV).2.cells.2.1
   go_simp
   clear hc
   refine hK.out _ _ (HTS.out wV bV).1 (fun hHeld=>?_)
   clear hK K
   try simp only[Act.put,sIA,sI0,sIS]
   refine rdyH [6] ?_
   refine rcH (fun K hK=>?_) AllReadyH.nil
   go_simp
   have bE:=aA2 wV (.cells #[.int .i64 xp,.string xt] 72)
   obtain⟨gE,hgE⟩:∃g,g=wV.heap.size:=⟨_,rfl⟩
   have nE:=aA3 (w:=wV) (N:=gE) #[.int .i64 xp,.string xt] 72 hgE.symm
   have bV:=bV.trans (bE.mono bV.size)
   refine hK.out _ _ (HTS.out _ bV).1 (fun hHeld=>?_)
   clear hK K
   try simp only[Act.put,sIA,sI0,sIS]
   rw[←hgE]
   generalize wV.alloc (.cells #[.int .i64 xp,.string xt] 72)=wE at*
   clear hgE bE
   refine rdyH [7] ?_
   refine rcH (fun K hK=>?_) AllReadyH.nil
   refine step_append_lies _ rfl (.tmp 28) (.tmp 30) 24 rfl base 72 iS (.agg #[.int .i64 0,.string ByteArray.empty]) 2 24 Tryz.underlying24 hiS hS0 hS1 hS2 rfl (by decide) sv n (aDX st) rfl (by rw[HNN.out];exact(HTS.out wE bV).2.srow) ⟨gE,0,none⟩ 1 1 [.int .i64 xp,.string xt] rfl rfl (World.news_of_block nE) (by intro u hu;simp at hu;rcases hu with rfl| rfl<;>rfl) (by omega) (by unfold maxLen;omega) (by omega) (Nat.le_trans HBV.out bV.size) _ rfl ?_
   intro gF capF wF oF hgF horF hltF
   have hnF:∀g,(Value.slice (some ⟨gF,0,none⟩) (n+1) capF).ownBlock=some g→sv.ownBlock=some g∨g=wE.heap.size:=fun g hg=>by simp only[Value.ownBlock,Option.some.injEq] at hg;subst hg;exact horF
   have HST:=aA0 ((HX.out wY bYY).2.1.come hx HSY.out HTT.out.1 HTT.out.2.1 HTT.out.2.2.1 HTT.out.2.2.2.1 HTT.out.2.2.2.2 bV (by rw[←HNN.out];exact oF) hgF hnF)
   have HXF:=aA0 (HX4.out wE bV wF hgF)
   clear oF hgF horF hltF hnF
   refine hK.out _ _ HXF.out.1 (fun hHeld=>?_)
   clear hK K
   try simp only[Act.put,sIA,sI0,sIS]
   refine tkH 8 hHeld ?_
   refine tkH 9 hHeld ?_
   refine rdyH [10] ?_
   refine rcH (fun K hK=>?_) AllReadyH.nil
   obtain⟨⟨hc,hz⟩,-⟩:=HST.out
   go_simp
   clear hc hz
   refine hK.out _ _ (HXF.out.2 _) (fun hHeld=>?_)
   clear hK K
   try simp only[Act.put,sIA,sI0,sIS]
   refine wpAnyH_done (by kernel_rfl) ?_ _
   have HFIN:=aA0 (show aL7 base N m c0 c1 c2 st wy sv ⟨xp,xt⟩ way w (.returned (.tuple #[])) _ from ⟨rfl,_,by rw[HE.out.1,HE.out.2];exact HST.out.2.1,ChgP.trans0 (HX.out wY bYY).2.2 HST.out.2.2.1,fun g e=>(HST.out.2.2.2 g e).imp id fun e=>Nat.le_trans (HX.out wY bYY).2.2.size e⟩)
   clear HST HXF
   go_wp2_with fail
   refine bodyPost_end (v:=.tuple #[]) ?res rfl HFIN.out
   case res=>simp[results,Tryz.results54,go_sem]
  refine rcH (fun K hK=>?_) AllReadyH.nil
  go_simp
  have bE:=aA2 wV (.cells #[.int .i64 xp,.string xt] 72)
  obtain⟨gE,hgE⟩:∃g,g=wV.heap.size:=⟨_,rfl⟩
  have nE:=aA3 (w:=wV) (N:=gE) #[.int .i64 xp,.string xt] 72 hgE.symm
  have bV:=bV.trans (bE.mono bV.size)
  refine hK.out _ _ (HTS.out _ bV).1 (fun hHeld=>?_)
  clear hK K
  try simp only[Act.put,sIA,sI0,sIS]
  rw[←hgE]
  generalize wV.alloc (.cells #[.int .i64 xp,.string xt] 72)=wE at*
  clear hgE bE
  refine rdyH [4] ?_
  refine rcH (fun K hK=>?_) AllReadyH.nil
  have hc:=(HTS.out wE bV).2.cells.2.1
  go_simp
  clear hc
  refine hK.out _ _ (HTS.out wE bV).1 (fun hHeld=>?_)
  clear hK K
  try simp only[Act.put,sIA,sI0,sIS]
  refine rdyH [7] ?_
  refine rcH (fun K hK=>?_) AllReadyH.nil
  refine step_append_lies _ rfl (.tmp 28) (.tmp 30) 24 rfl base 72 iS (.agg #[.int .i64 0,.string ByteArray.empty]) 2 24 Tryz.underlying24 hiS hS0 hS1 hS2 rfl (by decide) sv n (aDX st) rfl (by rw[HNN.out];exact(HTS.out wE bV).2.srow) ⟨gE,0,none⟩ 1 1 [.int .i64 xp,.string xt] rfl rfl (World.news_of_block nE) (by intro u hu;simp at hu;rcases hu with rfl| rfl<;>rfl) (by omega) (by unfold maxLen;omega) (by omega) (Nat.le_trans HBV.out bV.size) _ rfl ?_
  intro gF capF wF oF hgF horF hltF
  have hnF:∀g,(Value.slice (some ⟨gF,0,none⟩) (n+1) capF).ownBlock=some g→sv.ownBlock=some g∨g=wE.heap.size:=fun g hg=>by simp only[Value.ownBlock,Option.some.injEq] at hg;subst hg;exact horF
  have HST:=aA0 ((HX.out wY bYY).2.1.come hx HSY.out HTT.out.1 HTT.out.2.1 HTT.out.2.2.1 HTT.out.2.2.2.1 HTT.out.2.2.2.2 bV (by rw[←HNN.out];exact oF) hgF hnF)
  have HXF:=aA0 (HX4.out wE bV wF hgF)
  clear oF hgF horF hltF hnF
  refine hK.out _ _ HXF.out.1 (fun hHeld=>?_)
  clear hK K
  try simp only[Act.put,sIA,sI0,sIS]
  refine tkH 8 hHeld ?_
  refine tkH 9 hHeld ?_
  refine rdyH [10] ?_
  refine rcH (fun K hK=>?_) AllReadyH.nil
  obtain⟨⟨hc,hz⟩,-⟩:=HST.out
  go_simp
  clear hc hz
  refine hK.out _ _ (HXF.out.2 _) (fun hHeld=>?_)
  clear hK K
  try simp only[Act.put,sIA,sI0,sIS]
  refine wpAnyH_done (by kernel_rfl) ?_ _
  have HFIN:=aA0 (show aL7 base N m c0 c1 c2 st wy sv ⟨xp,xt⟩ way w (.returned (.tuple #[])) _ from ⟨rfl,_,by rw[HE.out.1,HE.out.2];exact HST.out.2.1,ChgP.trans0 (HX.out wY bYY).2.2 HST.out.2.2.1,fun g e=>(HST.out.2.2.2 g e).imp id fun e=>Nat.le_trans (HX.out wY bYY).2.2.size e⟩)
  clear HST HXF
  go_wp2_with fail
  refine bodyPost_end (v:=.tuple #[]) ?res rfl HFIN.out
  case res=>simp[results,Tryz.results54,go_sem]
theorem aSX(FW:World)(tmps:Array Value)(R:Nat)(v0 v1 v2 v3 v4:Value)(h2:tmps.getD 2 undef=.pointer (some ⟨R,0,none⟩))(hN:FW.heap[R]?=some (.cells #[v0,v1,v2,v3,v4] 66 (0,0))):
  (results Tryz.f30 tmps).run Tryz.prog FW=.ok (.agg #[v0,v1,v2,v3,v4]) FW:=by
 have d0:=(aA1 hN 0 (by simp)).1
 have d1:=(aA1 hN 1 (by simp)).1
 have d2:=(aA1 hN 2 (by simp)).1
 have d3:=(aA1 hN 3 (by simp)).1
 have d4:=(aA1 hN 4 (by simp)).1
 simp only[List.getElem_toArray,List.getElem_cons_zero,List.getElem_cons_succ] at d0 d1 d2 d3 d4
 simp only[Array.getD_eq_getD_getElem?] at h2
 simp[results,Tryz.results30,go_sem,h2,d0,d1,d2,d3,d4]
end Go.Proofs.YtcebpkeiaiiphaaGreatDoor
namespace Go.Proofs.YtcebpkeiaiiphaaGreatDoor
open Go.RowKit Go.Maps
theorem aOW(p:Pt)(w:World)(B:Nat)(v:Value)(hP:PRep w (·<B) p v)(hB:B≤w.heap.size):∃(ta:Option Addr) (tc:Nat),v=.agg #[.string p.name,.slice ta p.types.length tc]∧∀T,∀W,Below (w.alloc (.cells #[.string p.name,.slice ta p.types.length tc] T)).heap.size (w.alloc (.cells #[.string p.name,.slice ta p.types.length tc] T)) W→
  W.cell? ⟨w.heap.size,0,none⟩=some (.string p.name)∧W.cell? ⟨w.heap.size,1,none⟩=some (.slice ta p.types.length tc)∧PRep W (·<B) p (.agg #[.string p.name,.slice ta p.types.length tc])∧Below w.heap.size w W∧B≤W.heap.size:=by
 have hP':=hP
 obtain⟨ta,tc,rfl,-⟩:=hP'
 refine⟨ta,tc,rfl,fun T W hW=>?_⟩
 have nX:=aA3 (w:=w) (N:=w.heap.size) #[.string p.name,.slice ta p.types.length tc] T rfl
 have bX:=aA2 w (.cells #[.string p.name,.slice ta p.types.length tc] T)
 have zX:(w.alloc (.cells #[.string p.name,.slice ta p.types.length tc] T)).heap.size=w.heap.size+1:=by simp
 have h:=(hW.block w.heap.size (by omega)).trans nX
 have hb:=bX.trans (hW.mono (by omega))
 have:=hb.size
 exact⟨(aA1 h 0 (by simp)).1,(aA1 h 1 (by simp)).1,hP.under (hb.mono hB),hb,by omega⟩
set_option maxRecDepth 20000 in
set_option maxHeartbeats 1600000 in
theorem aII(p:Pt)(nm:ByteArray)(w:World)(B:Nat)(v:Value)(hP:PRep w (·<B) p v)(hB:B≤w.heap.size):
  Calls Tryz.prog 107 #[v,.string nm] w fun e w'=>e=.returned (.bool (aCT p nm))∧Below w.heap.size w w':=by
 obtain⟨ta,tc,rfl,hX⟩:=aOW p w B v hP hB
 have HX:=aA0 (hX 46)
 have zX:(w.alloc (.cells #[.string p.name,.slice ta p.types.length tc] 46)).heap.size=w.heap.size+1:=by simp
 clear hX hP
 go_enter Tryz.func107,Tryz.ntmps107
 go_upto_region 1 with fail
 generalize w.alloc (.cells #[.string p.name,.slice ta p.types.length tc] 46)=X at*
 obtain⟨c0,c1,hPX,bX,hBX⟩:=HX.out X (Below.refl _ _)
 have HBX:=aA0 hBX
 have hT:=aDI p X B _ nm hPX hBX
 have HTX:Hid (aAS p nm=aA9 (fun i=>(tth p.types i).name.toList==nm.toList) p.types.length):=aA0 rfl
 rw[←HTX.out] at hT
 rcases aA8 (fun i=>(tth p.types i).name.toList==nm.toList) p.types.length with⟨hx,-⟩| ⟨g,hx,hg,-,-⟩
 ·rw[←HTX.out] at hx
  have HK:Hid (aCT p nm=false):=aA0 (by rw[aCT,aA7,if_neg (by rw[hx];omega)];simp[T.zero,ByteArray.toList_eq])
  rw[hx] at hT
  have HT:=aA0 hT
  clear hT hPX hx hBX
  go_wp2_with (go_at_call 62;refine HT.out.mono ?_;rintro e w1 ⟨rfl,hb1⟩;obtain⟨y0,y1,-,b1,-⟩:=HX.out w1 hb1)
  go_ret
  exact⟨by rw[HK.out]<;>rfl,b1⟩
 ·rw[←HTX.out] at hx
  have hto:aA7 p nm=tth p.types g:=by rw[aA7,if_pos (by rw[hx];omega),hx];rfl
  rw[hx] at hT
  have HT:=aA0 hT
  obtain⟨ta',tc',e,hTs,-⟩:=hPX
  simp only[Value.agg.injEq,Array.mk.injEq,List.cons.injEq,Value.slice.injEq,true_and,and_true] at e
  obtain⟨rfl,rfl⟩:=e
  obtain⟨tb,toff,fa,fc,rfl,htr,hcs⟩:=hTs.at hBX g hg
  have hgi:(g:Int)<(p.types.length:Int):=by omega
  obtain⟨ky,hky⟩:∃ky,ky=(tth p.types g).key:=⟨_,rfl⟩
  have HC:Hid (∀W,Below X.heap.size X W→W.cell? ⟨tb,toff+g*3+1,none⟩=some (.string ky)):=aA0 fun W hW=>by rw[hky];exact(hcs W hW).2.1
  have HKY:Hid (aCT p nm=!ky.toList.isEmpty):=aA0 (by rw[aCT,hto,hky])
  clear hT hx hto hTs htr hcs hky hBX
  generalize p.types.length=tl at*
  cases hke:ky.toList.isEmpty
  all_goals
   go_wp2_with (go_at_call 62;refine HT.out.mono ?_;rintro e w1 ⟨rfl,hb1⟩;have x1:=HC.out w1 hb1;obtain⟨y0,y1,-,b1,-⟩:=HX.out w1 hb1)
   go_ret
   exact⟨by rw[HKY.out,hke]<;>rfl,b1⟩
set_option maxRecDepth 20000 in
set_option maxHeartbeats 1600000 in
theorem aNI(p:Pt)(nm n:ByteArray)(w:World)(B:Nat)(v:Value)(hP:PRep w (·<B) p v)(hB:B≤w.heap.size):
  Calls Tryz.prog 105 #[v,.string nm,.string n] w fun e w'=>e=.returned (.bool (aCC p nm n))∧Below w.heap.size w w':=by
 obtain⟨ta,tc,rfl,hX⟩:=aOW p w B v hP hB
 have HX:=aA0 (hX 46)
 have zX:(w.alloc (.cells #[.string p.name,.slice ta p.types.length tc] 46)).heap.size=w.heap.size+1:=by simp
 clear hX hP
 go_enter Tryz.func105,Tryz.ntmps105
 go_upto_region 1 with fail
 generalize w.alloc (.cells #[.string p.name,.slice ta p.types.length tc] 46)=X at*
 obtain⟨c0,c1,hPX,bX,hBX⟩:=HX.out X (Below.refl _ _)
 have HG:=aA0 (aDB p nm n X B _ hPX hBX)
 have HE:Hid (aCC p nm n=(sayB p nm n&&!(sayF p nm n).far&&decide ((sayF p nm n).needs.length=0))):=aA0 rfl
 have HZX:=aA0 zX
 clear hPX hBX
 generalize sayF p nm n=g at*
 generalize sayB p nm n=kn at*
 obtain⟨gn,gof,gl,gm,gfr,gh,gs,gd⟩:=g
 simp only[fval] at HG HE
 cases kn
 ·go_wp2_with (go_at_call 38;refine HG.out.mono ?_;rintro e w1 ⟨na,nc,rfl,hb1,-⟩;have b01:=fun o=>hb1.trans ((aA2 w1 o).mono hb1.size))
  go_ret
  exact⟨by rw[HE.out]<;>rfl,(HX.out _ (b01 _)).2.2.2.1⟩
 cases gfr
 rotate_left
 ·go_wp2_with (go_at_call 38;refine HG.out.mono ?_;rintro e w1 ⟨na,nc,rfl,hb1,-⟩;have b01:=fun o=>hb1.trans ((aA2 w1 o).mono hb1.size))
  go_ret
  exact⟨by rw[HE.out]<;>rfl,(HX.out _ (b01 _)).2.2.2.1⟩
 by_cases hgd:gd.length=0
 ·rw[hgd] at HG HE
  go_wp2_with (go_at_call 38;refine HG.out.mono ?_;rintro e w1 ⟨na,nc,rfl,hb1,-⟩;have b01:=fun o=>hb1.trans ((aA2 w1 o).mono hb1.size))
  go_ret
  exact⟨by rw[HE.out]<;>rfl,(HX.out _ (b01 _)).2.2.2.1⟩
 ·have hgi:¬(gd.length:Int)=0:=by omega
  go_wp2_with (go_at_call 38;refine HG.out.mono ?_;rintro e w1 ⟨na,nc,rfl,hb1,-⟩;have b01:=fun o=>hb1.trans ((aA2 w1 o).mono hb1.size))
  go_ret
  exact⟨by rw[HE.out];simp[hgd],(HX.out _ (b01 _)).2.2.2.1⟩
set_option maxRecDepth 20000 in
set_option maxHeartbeats 1600000 in
theorem aO4(ps:List Pt)(nm n:ByteArray)(w:World)(B:Nat)(a:Option Addr)(c:Nat)(hR:aAZ w (·<B) ps a)(hB:B≤w.heap.size):
  Calls Tryz.prog 106 #[.slice a ps.length c,.string nm,.string n] w fun e w'=>e=.returned (.int .i64 (aC3 ps nm n))∧Below w.heap.size w w':=by
 have h40:=hR.1
 have HR:=aA0 hR
 have HBL:=aA0 hB
 clear hR hB
 have HQ:Hid (qB nm=(nm.toList==[113,117,101,114,121])):=aA0 rfl
 cases hq:(nm.toList==[113,117,101,114,121])
 all_goals
  rw[hq] at HQ
  go_enter Tryz.func106,Tryz.ntmps106
  go_wp2_with fail
  go_loopw [7] (fun i wr=>∃k:Nat,k≤ps.length∧i=.int .i64 k∧Hid (∀j,j<k→aDF ps nm n j=false)∧Below w.heap.size w wr) (fun i _=>ps.length- (intOf i).toNat)
  case atStart=>exact⟨0,Nat.zero_le _,rfl,aA0 fun j hj=>by omega,Below.refl _ _⟩
  case round=>
   obtain⟨k,hk,rfl,HN,hb⟩:=hrel
   obtain⟨w0,rfl⟩:∃x,x=wr:=⟨wr,rfl⟩
   have zb:=hb.size
   by_cases hlt:k<ps.length
   case neg=>
    have e:k=ps.length:=by omega
    subst e
    have HE:Hid (aC3 ps nm n=-1):=aA0 (aB2 HN.out)
    go_wp2_with fail
    go_ret
    exact⟨by rw[HE.out]<;>rfl,hb⟩
   have hki:(k:Int)<(ps.length:Int):=by omega
   obtain⟨pb,po,ta,tc,rfl,hpB,q0,q1,hP⟩:=(HR.out.under (hb.mono HBL.out)).at k hlt
   have HG:=aA0 (aDB (pth ps k) nm n w0 B _ hP (by have:=HBL.out;omega))
   have HKD:=aA0 (fun W (hW:Below w0.heap.size w0 W)=>aII (pth ps k) nm W B _ (hP.under (hW.mono (by have:=HBL.out;omega))) (by have:=HBL.out;have:=hW.size;omega))
   have HQC:Hid (∀W,Below w0.heap.size w0 W→W.cell? ⟨pb,po+k*2,none⟩=some (.string (pth ps k).name)∧W.cell? ⟨pb,po+k*2+1,none⟩=some (.slice ta (pth ps k).types.length tc)):=aA0 fun W hW=>⟨(hW.cell (p:=⟨pb,po+k*2,none⟩) (by show pb<_;have:=HBL.out;omega)).trans q0,(hW.cell (p:=⟨pb,po+k*2+1,none⟩) (by show pb<_;have:=HBL.out;omega)).trans q1⟩
   clear hP
   have HAT:Hid (aDF ps nm n k=((sayB (pth ps k) nm n&&!(sayF (pth ps k) nm n).far)&&(qB nm||aCT (pth ps k) nm))):=aA0 rfl
   have HNO:Hid (aDF ps nm n k=false→∀j,j<k+1→aDF ps nm n j=false):=aA0 fun h j hj=>by
    by_cases e:j=k
    ·subst e;exact h
    ·exact HN.out j (by omega)
   have HYE:Hid (aDF ps nm n k=true→aC3 ps nm n=k):=aA0 fun h=>aAU HN.out h hlt
   rw[HQ.out] at HAT
   generalize pth ps k=p at*
   generalize sayF p nm n=g at*
   generalize sayB p nm n=kn at*
   generalize aCT p nm=kd at*
   generalize aDF ps nm n k=hm at*
   obtain⟨gn,gof,gl,gm,gfr,gh,gs,gd⟩:=g
   simp only[fval] at HG HAT
   have HOT:=aA0 hb
   cases kn<;>cases gfr<;>cases kd
   all_goals
    go_wp2_with (first
     |(go_at_call 38;refine HG.out.mono ?_;rintro e w1 ⟨na,nc,rfl,hb1,-⟩;have b01:=fun o=>hb1.trans ((aA2 w1 o).mono hb1.size);have y0:=fun o=>(HQC.out _ (b01 o)).1;have y1:=fun o=>(HQC.out _ (b01 o)).2)
     |(go_at_call 107;refine(HKD.out _ (b01 _)).mono ?_;rintro e w2 ⟨rfl,hb2⟩;replace b01:=(b01 _).trans (hb2.mono (b01 _).size)))
    first
     |(go_ret
       exact⟨by rw[HYE.out (by rw[HAT.out]<;>rfl)]<;>rfl,by first| exact hb.trans ((b01 _).mono zb)| exact hb.trans (b01.mono zb)⟩)
     |(go_roundw
       case measure=>simp[intOf];omega
       case rel=>exact⟨k+1,by omega,by go_num,aA0 (HNO.out (by rw[HAT.out]<;>rfl)),by first| exact hb.trans ((b01 _).mono zb)| exact hb.trans (b01.mono zb)⟩)
end Go.Proofs.YtcebpkeiaiiphaaGreatDoor
