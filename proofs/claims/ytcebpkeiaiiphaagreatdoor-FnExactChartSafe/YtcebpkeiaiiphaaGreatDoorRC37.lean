import Derived.Test.YtcebpkeiaiiphaaGreatDoorRC36
set_option linter.unusedSimpArgs false
set_option linter.unusedVariables false
namespace Go.Proofs.YtcebpkeiaiiphaaGreatDoor
open Go.RowKit Go.Maps
theorem aIP{way:List ByteArray}{fn:ByteArray}(h:∀t∈ way,t.size<=1048576)(hf:fn.size<=maxLen)(j:Nat):(nth (way++[fn]) j).size<=maxLen:=by
 by_cases hj:j<(way++[fn]).length
 ·have e:nth (way++[fn]) j=(way++[fn])[j]:=by simp only[nth,List.getD_eq_getElem?_getD,List.getElem?_eq_getElem hj];rfl
  have hm:nth (way++[fn]) j∈ way++[fn]:=by rw[e];exact List.getElem_mem hj
  rw[List.mem_append,List.mem_singleton] at hm;rcases hm with hm| hm
  ·have:=h _ hm;unfold maxLen;omega
  ·rw[hm];exact hf
 ·have e:nth (way++[fn]) j=ByteArray.empty:=by simp only[nth,List.getD_eq_getElem?_getD,List.getElem?_eq_none (Nat.le_of_not_lt hj)];rfl
  rw[e];simp[maxLen]
theorem aIM{w:World}{base:Nat}{e:TypeId}{k:Nat}{v:Value}{n:Nat}{xs:List Value}(h:w.ownsRow base e k v n xs):∃(a:Option Addr) (cap:Nat),v=.slice a n cap:=by
 rcases h.2 with⟨rfl,rfl⟩| ⟨g,cap,cur,rfl,-⟩
 ·exact⟨none,0,rfl⟩
 ·exact⟨_,cap,rfl⟩
theorem aQ2(ss:List Sta)(x:Sta):aCG ss x=-1∨∃q:Nat,aCG ss x=q:=by
 unfold aCG;rcases aA8 (fun i=>decide ((sta ss i).part=x.part)&&((sta ss i).type.toList==x.type.toList)) ss.length with⟨e,-⟩| ⟨k,e,-⟩
 ·exact .inl e
 ·exact .inr ⟨k,e⟩
def aUR(base M:Nat)(K:Wk)(w w':World):Prop:=Below base w w'∧∃sv wv bv WV,WkM base M K.st K.wy K.bad sv wv bv WV w'
set_option maxRecDepth 20000 in
set_option maxHeartbeats 3200000 in
theorem aSP(ps:List Pt)(all:Pt)(K:Wk)(i:Nat)(w:World)(B base M:Nat)(a:Option Addr)(c:Nat)(av:Value)(sv wv bv:Value)(WV:List Value)
  (hW:WkM base M K.st K.wy K.bad sv wv bv WV w) (hOk:WkOk ps all K) (hi:i<K.st.length) (ho:okP all=true) (h4:ps.length<=4) (hnl:∀m nm k,(sayF (pth ps m) nm k).needs.length<=1000000000) (hR:aAP w (·<B) ps a) (hA:PRep w (·<B) all av) (hB:B<=base):
  Calls Tryz.prog 51 #[.pointer (some ⟨M,0,none⟩),.slice a ps.length c,av,.int .i64 i] w fun e w'=>e=.returned (.tuple #[])∧aUR base M (K.turn ps all i) w w':=by
 obtain⟨k0,e0,hk0,hkn⟩:=aC8 (hOk.type _ (aGH hi));have hto:aA5 all (sta K.st i).type=tth all.types k0:=aDT e0;have HTU:Hid (K.turn ps all i=K.flds ps (sta K.st i) (wth K.wy i) (tth all.types k0).fields (tth all.types k0).fields.length):=aA0 (by unfold Wk.turn;rw[hto])
 have hbM:=hW.mB;have hMw:=hW.mlt;have HIN:=aA0 (hOk.in hi);have HOK:=aA0 (fun k (hk:k<=(tth all.types k0).fields.length)=>WkOk.flds ho hOk (hOk.in hi) hi hk0 k hk);have HWY:=aA0 (fun k=>aKO (i:=i) (Wk.flds_wy ps (sta K.st i) (wth K.wy i) (tth all.types k0).fields K k) (by have:=hOk.len;omega))
 have HWL:=aA0 (fun k=>((Wk.flds_wy ps (sta K.st i) (wth K.wy i) (tth all.types k0).fields K k).length_le));have HIW:Hid (i<K.wy.length):=aA0 (by have:=hOk.len;omega)
 have HSL:=aA0 (fun k=>((Wk.flds_mono ps (sta K.st i) (wth K.wy i) (tth all.types k0).fields K k).length_le));have hfew:Hid (∀K':Wk,WkOk ps all K'->K'.st.length<=20∧K'.wy.length<=20):=aA0 fun K' h=>by
  have h1:=h.few h4 (aEB ho).2;have:=h.len;omega
 have HF8:Hid ((tth all.types k0).fields.length<=8):=aA0 (aCI (aEI ho hk0)).2.1;have hA':=hA;obtain⟨ata,atc,rfl,hTs,hac,has⟩:=hA;obtain⟨tb,toff,tfa,tfc,rfl,htr,hcs⟩:=hTs.at (B:=B) (by omega) k0 hk0
 obtain⟨g0,cap0,rfl,hcap0,s0,s1⟩:=hW.stAt i hi;have hki:(k0:Int)<(all.types.length:Int):=by omega
 have hii:(i:Int)<(K.st.length:Int):=by omega
 have hT:=fun W (hW:Below w.heap.size w W)=>aDO all W B _ (sta K.st i).type (hA'.under (hW.mono (by omega))) (by have:=hW.size;omega)
 have e0':aA9 (fun j=>(tth all.types j).name.toList==(sta K.st i).type.toList) all.types.length=k0:=e0;rw[e0'] at hT;have HT:=aA0 hT;have HFS:Hid (∀W,Below base w W->aBJ W (·<B) (tth all.types k0).fields tfa):=aA0 fun W hW=>by
  obtain⟨fa',fc',e,hF,-⟩:=htr.under (hW.mono hB);simp only[Value.agg.injEq,Array.mk.injEq,List.cons.injEq,Value.slice.injEq,and_true,true_and] at e;obtain⟨rfl,-⟩:=e;exact hF
 have HNX:=aA0 (fun W (hW:Below base w W) nm n=>aPH ps W B a c (sta K.st i).part HIN.out.part nm n (fun m k=>hnl m _ k) (hR.under (hW.mono hB)) (by have:=hW.size;omega))
 have HXN:Hid (∀nm n,aCT ps (sta K.st i).part nm n=true->aEO ps (sta K.st i).part nm n<4):=aA0 fun nm n h=>by have:=aP4 HIN.out.part h;omega
 have HMV1:Hid (∀nm n,aCT ps (sta K.st i).part nm n=true->aJZ ps (sta K.st i).part nm n=(aEO ps (sta K.st i).part nm n:Nat)):=aA0 fun nm n h=>if_pos h;have HMV0:Hid (∀nm n,aCT ps (sta K.st i).part nm n=false->aJZ ps (sta K.st i).part nm n=-1):=aA0 fun nm n h=>if_neg (by rw[h];simp)
 have HFLD:Hid (∀k,K.flds ps (sta K.st i) (wth K.wy i) (tth all.types k0).fields (k+1)=(K.flds ps (sta K.st i) (wth K.wy i) (tth all.types k0).fields k).fld ps (sta K.st i) (wth K.wy i) (fth (tth all.types k0).fields k)):=aA0 fun k=>rfl;have HW0:=aA0 hW;have HBW:Hid (B<=base∧base<=M∧M<w.heap.size):=aA0 ⟨hB,hbM,hMw⟩;obtain⟨sl,hsl⟩:∃x,x=K.st.length:=⟨_,rfl⟩;rw[<-hsl] at hii hcap0 HW0;have HSLN:=aA0 hsl;have HWAY:Hid (∀t∈ wth K.wy i,t.size<=1048576):=aA0 HIN.out.wsz;have HWN:Hid ((wth K.wy i).length<=20):=aA0 (by have:=HIN.out.wlen;have:=(hfew.out K hOk).1;omega)
 obtain⟨pl,hpl⟩:∃x,x=ps.length:=⟨_,rfl⟩;rw[<-hpl] at HNX ⊢;clear hR hA' hT e0 e0' hto hkn htr hTs hac has hnl hsl hpl hW hOk h4 hi ho HIN;rw[HTU.out];clear HTU;generalize hway:wth K.wy i=way at*;clear hway;generalize sta K.st i=s at*;obtain⟨sp,sty⟩:=s;simp only at HNX HXN HMV1 HMV0 HT s0 s1;generalize hKF:(fun k=>K.flds ps ⟨sp,sty⟩ way (tth all.types k0).fields k)=KF at*;have HKF:Hid (∀k,K.flds ps ⟨sp,sty⟩ way (tth all.types k0).fields k=KF k):=aA0 fun k=>by rw[<-hKF]
 have HK0:Hid (KF 0=K):=aA0 (by rw[<-HKF.out];rfl)
 clear hKF;rw[HKF.out];simp only[HKF.out] at HFLD HOK HWY HWL HSL;generalize tth all.types k0=t at*;obtain⟨tnm,tky,fs⟩:=t;simp only at HFS HF8 HFLD HOK hcs ⊢;have bA:=aA2 w (.cells #[.string all.name,.slice (some ⟨tb,toff,none⟩) all.types.length atc] 46);have nA:=aA3 (w:=w) (N:=w.heap.size) #[.string all.name,.slice (some ⟨tb,toff,none⟩) all.types.length atc] 46 rfl;have HZA:Hid ((w.alloc (.cells #[.string all.name,.slice (some ⟨tb,toff,none⟩) all.types.length atc] 46)).heap.size=w.heap.size+1):=aA0 (by simp)
 replace s0:=(bA.cell (aAA s0)).trans s0
 replace s1:=(bA.cell (aAA s1)).trans s1
 obtain⟨m0,-,-,-⟩:=(HW0.out.keep bA).cells;have HCS:Hid (∀W,Below w.heap.size w W->W.cell? ⟨tb,toff+k0*3,none⟩=some (.string tnm)∧W.cell? ⟨tb,toff+k0*3+1,none⟩=some (.string tky)∧W.cell? ⟨tb,toff+k0*3+2,none⟩=some (.slice tfa fs.length tfc)):=aA0 fun W hW=>by
  obtain⟨q0,q1,q2⟩:=hcs w (Below.refl _ _);exact⟨(hW.cell (aAA q0)).trans q0,(hW.cell (aAA q1)).trans q1,(hW.cell (aAA q2)).trans q2⟩
 clear hcs;generalize all.types.length=atl at*;generalize all.name=anm at*;go_enter Tryz.func51,Tryz.ntmps51
 go_upto_region 1 with fail
 generalize w.alloc (.cells #[.string anm,.slice (some ⟨tb,toff,none⟩) atl atc] 46)=X1 at*;go_upto_region 2 with fail
 have bS:=aA2 X1 (.cells #[.int .i64 sp,.string sty] 72);have nS:=aA3 (w:=X1) (N:=X1.heap.size) #[.int .i64 sp,.string sty] 72 rfl;have HZSS:Hid ((X1.alloc (.cells #[.int .i64 sp,.string sty] 72)).heap.size=X1.heap.size+1):=aA0 (by simp)
 clear s0 s1 m0;generalize X1.alloc (.cells #[.int .i64 sp,.string sty] 72)=X2 at*;have HX2:Hid (∀W,Below X2.heap.size X2 W->(W.cell? ⟨w.heap.size,0,none⟩=some (.string anm)∧W.cell? ⟨w.heap.size,1,none⟩=some (.slice (some ⟨tb,toff,none⟩) atl atc))∧(W.cell? ⟨X1.heap.size,0,none⟩=some (.int .i64 sp)∧W.cell? ⟨X1.heap.size,1,none⟩=some (.string sty))∧Below w.heap.size w W∧w.heap.size<W.heap.size):=aA0 fun W hW=>by
  have zA:=HZA.out;have zS:=HZSS.out;have h0:=((bS.trans (hW.mono bS.size)).block w.heap.size (by omega)).trans nA
  have h1:=(hW.block X1.heap.size (by omega)).trans nS
  have:=hW.size;exact⟨⟨(aA1 h0 0 (by simp)).1,(aA1 h0 1 (by simp)).1⟩,⟨(aA1 h1 0 (by simp)).1,(aA1 h1 1 (by simp)).1⟩,bA.trans ((bS.trans (hW.mono bS.size)).mono bA.size),by omega⟩
 have HS2:Hid (∀W,Below X2.heap.size X2 W->(W.cell? ⟨w.heap.size,0,none⟩=some (.string anm)∧W.cell? ⟨w.heap.size,1,none⟩=some (.slice (some ⟨tb,toff,none⟩) atl atc))∧W.cell? ⟨X1.heap.size,1,none⟩=some (.string sty)∧W.cell? ⟨tb,toff+k0*3,none⟩=some (.string tnm)∧W.cell? ⟨tb,toff+k0*3+1,none⟩=some (.string tky)∧W.cell? ⟨tb,toff+k0*3+2,none⟩=some (.slice tfa fs.length tfc)):=aA0 fun W hW=>⟨(HX2.out W hW).1,(HX2.out W hW).2.1.2,HCS.out W (HX2.out W hW).2.2.1⟩;have HX12:Hid (X1.heap.size<X2.heap.size∧w.heap.size<X1.heap.size):=aA0 (by have zA:=HZA.out;have zS:=HZSS.out;omega)
 clear bA nA HZA bS nS HZSS;go_cut [9] (fun r wx=>∃nt:Nat,r=.pointer (some ⟨nt,0,none⟩)∧Hid (X2.heap.size<=nt∧nt<wx.heap.size∧wx.heap[nt]?=some (.cells #[.string tnm,.string tky,.slice tfa fs.length tfc] 96 (0,0)))∧Below X2.heap.size X2 wx)
 case first=>
  refine wp_region_held_drew (S:=(fun W=>(W.cell? ⟨w.heap.size,0,none⟩=some (.string anm)∧W.cell? ⟨w.heap.size,1,none⟩=some (.slice (some ⟨tb,toff,none⟩) atl atc))∧W.cell? ⟨X1.heap.size,1,none⟩=some (.string sty)∧W.cell? ⟨tb,toff+k0*3,none⟩=some (.string tnm)∧W.cell? ⟨tb,toff+k0*3+1,none⟩=some (.string tky)∧W.cell? ⟨tb,toff+k0*3+2,none⟩=some (.slice tfa fs.length tfc))) (by kernel_rfl) (HS2.out _ (Below.refl _ _).drew) (fun hHeld=>?_)
  have bX:Below X2.heap.size X2 X2.drew:=(Below.refl _ _).drew;generalize X2.drew=wD at*;refine tkH 0 hHeld ?_;refine tkH 1 hHeld ?_;refine tkH 2 hHeld ?_;refine tkH 3 hHeld ?_;refine tkH 4 hHeld ?_;refine rdyH [5,8] ?_;refine rcH (fun K hK=>?_) ?_
  ·go_simp
   refine(HT.out wD (HX2.out wD bX).2.2.1).mono ?_;rintro e wK ⟨rfl,bK⟩;have bX:=bX.trans (bK.mono bX.size);refine hK.out _ _ (HS2.out _ bX) (fun hHeld=>?_);clear hK K;try simp only[Act.put,sIA,sI0,sIS]
   refine tkH 6 hHeld ?_;refine tkH 7 hHeld ?_;refine rdyH [8] ?_;refine rcH (fun K hK=>?_) AllReadyH.nil;go_simp
   have bE:=aA2 wK (.cells #[.string ⟨#[]⟩,.string ⟨#[]⟩,.slice none 0 0] 96);have nE:=aA3 (w:=wK) #[.string ⟨#[]⟩,.string ⟨#[]⟩,.slice none 0 0] 96 rfl;have qE:X2.heap.size<=wK.heap.size:=bX.size;have zE:wK.heap.size<(wK.alloc (.cells #[.string ⟨#[]⟩,.string ⟨#[]⟩,.slice none 0 0] 96)).heap.size:=by simp
   have bX:=bX.trans (bE.mono bX.size);refine hK.out _ _ (HS2.out _ bX) (fun hHeld=>?_);clear hK K;try simp only[Act.put,sIA,sI0,sIS]
   generalize wK.alloc (.cells #[.string ⟨#[]⟩,.string ⟨#[]⟩,.slice none 0 0] 96)=wE at*;refine rdyH [9] ?_;refine rcH (fun K hK=>?_) AllReadyH.nil;obtain⟨y0,g0'⟩:=aA1 nE 0 (by simp)
   obtain⟨y1,g1'⟩:=aA1 nE 1 (by simp)
   obtain⟨y2,g2'⟩:=aA1 nE 2 (by simp)
   go_simp
   refine hK.out _ _ (HS2.out _ (aB7 bX qE _ _ _)) (fun hHeld=>?_);clear hK K;try simp only[Act.put,sIA,sI0,sIS]
   refine wpAnyH_done (by kernel_rfl) ?_ _
   go_wp2_with fail
   go_meet
   case rel=>
    exact⟨_,rfl,aA0 ⟨qE,by rw[aFW];exact zE,aGZ nE _ _ _⟩,aB7 bX qE _ _ _⟩
  refine rcH (fun K hK=>?_) AllReadyH.nil;go_simp
  have bE:=aA2 wD (.cells #[.string ⟨#[]⟩,.string ⟨#[]⟩,.slice none 0 0] 96);have nE:=aA3 (w:=wD) #[.string ⟨#[]⟩,.string ⟨#[]⟩,.slice none 0 0] 96 rfl;have qE:X2.heap.size<=wD.heap.size:=bX.size;have zE:wD.heap.size<(wD.alloc (.cells #[.string ⟨#[]⟩,.string ⟨#[]⟩,.slice none 0 0] 96)).heap.size:=by simp
  have bX:=bX.trans (bE.mono bX.size);refine hK.out _ _ (HS2.out _ bX) (fun hHeld=>?_);clear hK K;try simp only[Act.put,sIA,sI0,sIS]
  generalize wD.alloc (.cells #[.string ⟨#[]⟩,.string ⟨#[]⟩,.slice none 0 0] 96)=wE at*;refine rdyH [5] ?_;refine rcH (fun K hK=>?_) AllReadyH.nil;go_simp
  refine(HT.out wE (HX2.out wE bX).2.2.1).mono ?_;rintro e wK ⟨rfl,bK⟩;have bX:=bX.trans (bK.mono bX.size);have nE:=(bK.block _ zE).trans nE;have zE:=Nat.lt_of_lt_of_le zE bK.size;refine hK.out _ _ (HS2.out _ bX) (fun hHeld=>?_);clear hK K;try simp only[Act.put,sIA,sI0,sIS]
  refine tkH 6 hHeld ?_;refine tkH 7 hHeld ?_;refine rdyH [9] ?_;refine rcH (fun K hK=>?_) AllReadyH.nil;obtain⟨y0,g0'⟩:=aA1 nE 0 (by simp)
  obtain⟨y1,g1'⟩:=aA1 nE 1 (by simp)
  obtain⟨y2,g2'⟩:=aA1 nE 2 (by simp)
  go_simp
  refine hK.out _ _ (HS2.out _ (aB7 bX qE _ _ _)) (fun hHeld=>?_);clear hK K;try simp only[Act.put,sIA,sI0,sIS]
  refine wpAnyH_done (by kernel_rfl) ?_ _
  go_wp2_with fail
  go_meet
  case rel=>
   exact⟨_,rfl,aA0 ⟨qE,by rw[aFW];exact zE,aGZ nE _ _ _⟩,aB7 bX qE _ _ _⟩
 case rest=>
  obtain⟨nt,rfl,HNT,bx⟩:=hcut;obtain⟨X,rfl⟩:∃x,x=wc:=⟨wc,rfl⟩;have HBOX:Hid (∀W:World,(∀b,w.heap.size<=b->b<X.heap.size->W.heap[b]?=X.heap[b]?)->W.cell? ⟨nt,2,none⟩=some (.slice tfa fs.length tfc)∧(W.cell? ⟨X1.heap.size,0,none⟩=some (.int .i64 sp)∧W.cell? ⟨X1.heap.size,1,none⟩=some (.string sty))):=aA0 fun W hW=>by
   obtain⟨h1,h2,h3⟩:=HNT.out;obtain⟨h5,h6⟩:=HX12.out;have h:=(hW nt (by omega) h2).trans h3
   obtain⟨-,⟨q0,q1⟩,-,-⟩:=HX2.out X bx;have hq:=hW X1.heap.size (by omega) (by have:=bx.size;omega)
   exact⟨(aA1 h 2 (by simp)).1,(World.cell?_of_block (a:=⟨X1.heap.size,0,none⟩) hq).trans q0,(World.cell?_of_block (a:=⟨X1.heap.size,1,none⟩) hq).trans q1⟩
  have hXw:=(HX2.out X bx).2.2.1;have HFR0:Hid (FrmR base w.heap.size w X M (.slice (some ⟨g0,0,none⟩) sl cap0) wv X):=aA0 ⟨hXw.mono (by omega),Nat.le_refl _,fun _ _ _=>rfl,fun g e=>⟨(HW0.out.srow.lt g e).1,.inl (HW0.out.srow.lt g e).2⟩,fun g e=>⟨(HW0.out.wrow.lt g e).1,.inl (HW0.out.wrow.lt g e).2⟩,HBW.out.2.2,HBW.out.2.1,hXw.size⟩
  have HWX:=aA0 (HW0.out.keep hXw);clear HX2 HS2 HCS HX12 HNT bx hXw HT hki hcap0 hii hMw;obtain⟨d2,-,-⟩:=HBOX.out X fun _ _ _=>rfl;go_wp2_with fail
  clear d2;go_loopw [10] (fun i' wr=>∃(k:Nat) (sv wv bv:Value) (WV:List Value),k<=fs.length∧i'=.int .i64 k∧Hid (WkM base M (KF k).st (KF k).wy (KF k).bad sv wv bv WV wr)∧Hid (FrmR base w.heap.size w X M sv wv wr)) (fun i' _=>fs.length- (intOf i').toNat)
  case atStart=>
   refine⟨0,_,wv,bv,WV,Nat.zero_le _,rfl,aA0 ?_,HFR0⟩;rw[HK0.out];exact HWX.out
  case round=>
   obtain⟨k,sv,wv,bv,WV,hk,rfl,HWK,HFM⟩:=hrel;obtain⟨w0,rfl⟩:∃x,x=wr:=⟨wr,rfl⟩;have hf8:=HF8.out;obtain⟨d2,d3,d4⟩:=HBOX.out w0 HFM.out.blk;by_cases hlt:k<fs.length
   case neg=>
    have e:k=fs.length:=by omega
    have HE:Hid (aUR base M (KF fs.length) w w0):=aA0 ⟨HFM.out.old,sv,wv,bv,WV,by rw[<-e];exact HWK.out⟩
    have hji:¬(k:Int)<(fs.length:Int):=by omega
    clear e d3 d4;go_wp2_with fail
    refine bodyPost_end (v:=.tuple #[]) ?res rfl ⟨rfl,HE.out⟩;case res=>simp[results,Tryz.results51,go_sem]
   have hji:(k:Int)<(fs.length:Int):=by omega
   obtain⟨fb,foff,fna,fnc,rfl,hfr,hfc⟩:=(HFS.out w0 HFM.out.old).at (B:=B) (by have:=HBW.out;have:=HFM.out.old.size;omega) k hlt
   obtain⟨c0,c1,c2,c3,c4,c5,c6,c7⟩:=hfc w0 (Below.refl _ _);have HSU:=aA0 (HFLD.out k);have HO1:=aA0 (HOK.out (k+1) (by omega))
   have HWYK:=aA0 (HWY.out k);have HIWK:Hid (i<(KF k).wy.length):=aA0 (by have:=HIW.out;have:=HWL.out k;omega)
   have HLEN:=aA0 (hfew.out _ (HOK.out k hk));have HWNK:=aA0 (HNX.out);have hfsz:(fth fs k).name.size<=maxLen:=by obtain⟨_,_,_,_,_,h,_⟩:=hfr;exact h
   have HFSZ:=aA0 hfsz;clear hfr hfc hfsz;generalize fth fs k=f at*;obtain⟨fn,fo,fl,fm,ff,fh,fsh,fnd⟩:=f;simp only at c0 c1 c2 c3 c4 c5 c6 c7 HFSZ;have HFE:Hid (KF (k+1)=Wk.fld ps ⟨sp,sty⟩ way (KF k) ⟨fn,fo,fl,fm,ff,fh,fsh,fnd⟩):=HSU;clear HSU HWNK;generalize hK1:KF (k+1)=K1 at*;have HK1:=aA0 hK1;clear hK1;generalize hK2:KF k=Kk at*;have HK2:=aA0 hK2;clear hK2;obtain⟨stt,wyy,bdd⟩:=Kk;simp only at HWK HWYK HIWK HLEN;go_upto_region 7 with fail
   clear c0 c1 c2 c3 c4 c5 c6 c7 d2;have bF:=aA2 w0 (.cells #[.string fn,.string fo,.bool fl,.bool fm,.bool ff,.bool fh,.bool fsh,.slice fna fnd.length fnc] 80);have nF:=aA3 (w:=w0) (N:=w0.heap.size) #[.string fn,.string fo,.bool fl,.bool fm,.bool ff,.bool fh,.bool fsh,.slice fna fnd.length fnc] 80 rfl;have zF:(w0.alloc (.cells #[.string fn,.string fo,.bool fl,.bool fm,.bool ff,.bool fh,.bool fsh,.slice fna fnd.length fnc] 80)).heap.size=w0.heap.size+1:=by simp
   have HSZ0:Hid (X.heap.size<=w0.heap.size):=aA0 HFM.out.size;cases fh
   rotate_left
   ·have HN:Hid (K1=⟨stt,wyy,bdd⟩):=aA0 (by rw[HFE.out];rfl)
    have HW1:=aA0 (HWK.out.keep bF);have HF1:=aA0 (HFM.out.keep bF);clear d3 d4 bF zF;obtain⟨f5,-⟩:=aA1 nF 5 (by simp)
    simp only[List.getElem_toArray,List.getElem_cons_zero,List.getElem_cons_succ] at f5;clear nF;go_wp2_with fail
    go_roundw
    case measure=>simp[intOf];omega
    case rel=>exact⟨k+1,sv,wv,bv,WV,by omega,by go_num,aA0 (by rw[HK1.out,HN.out];exact HW1.out),HF1⟩
   clear d3 d4;generalize w0.alloc (.cells #[.string fn,.string fo,.bool fl,.bool fm,.bool ff,.bool false,.bool fsh,.slice fna fnd.length fnc] 80)=Z at*;have HZ:Hid (∀W,Below Z.heap.size Z W->WkM base M stt wyy bdd sv wv bv WV W∧FrmR base w.heap.size w X M sv wv W∧(W.cell? ⟨w0.heap.size,0,none⟩=some (.string fn)∧W.cell? ⟨w0.heap.size,1,none⟩=some (.string fo))∧(W.cell? ⟨X1.heap.size,0,none⟩=some (.int .i64 sp)∧W.cell? ⟨X1.heap.size,1,none⟩=some (.string sty))):=aA0 fun W hW=>by
    have h:=(hW.block w0.heap.size (by omega)).trans nF
    have hb:=bF.trans (hW.mono (by omega))
    have hf:=HFM.out.keep hb;exact⟨HWK.out.keep hb,hf,⟨(aA1 h 0 (by simp)).1,(aA1 h 1 (by simp)).1⟩,(HBOX.out W hf.blk).2⟩
   have HZS:Hid (w0.heap.size<Z.heap.size∧X.heap.size<=w0.heap.size):=aA0 ⟨by omega,HFM.out.size⟩
   obtain⟨f5,-⟩:=aA1 nF 5 (by simp)
   simp only[List.getElem_toArray,List.getElem_cons_zero,List.getElem_cons_succ] at f5;clear bF nF zF HFM HWK HSZ0;go_upto_region 8 with fail
   clear f5;obtain⟨gw,capw,wa,wc,hwv,hcw,x0,hWS⟩:=(HZ.out Z (Below.refl _ _)).1.wyAt i HIWK.out;rw[HWYK.out] at x0 hWS;have HWVE:=aA0 hwv;have hiw:(i:Int)<(wyy.length:Int):=by have:=HIWK.out;omega
   have HS8:Hid (∀W,Below Z.heap.size Z W->W.cell? ⟨M,1,none⟩=some (.slice (some ⟨gw,0,none⟩) wyy.length capw)∧W.cell? ⟨gw,i,none⟩=some (.slice wa way.length wc)∧W.cell? ⟨w0.heap.size,0,none⟩=some (.string fn)):=aA0 fun W hW=>⟨by rw[<-HWVE.out];exact(HZ.out W hW).1.cells.2.1,(hW.cell (aAA x0)).trans x0,(HZ.out W hW).2.2.1.1⟩
   have HLA:Hid (∀W,Below Z.heap.size Z W->aFL W wa way.length (way.map Value.string)):=aA0 fun W hW=>aGO (hWS.mono fun b hb=>hW.block b hb.2.1);have hwn:=HWN.out;obtain⟨i9,hi9,hx0,hx1,hx2⟩:=info_parts aRD;clear hwv x0 hWS;go_cut [12] (fun r wx=>∃g cap,r=.slice (some ⟨g,0,none⟩) (way.length+1) cap∧Hid (Strs wx (fun b=>Z.heap.size<=b∧b<wx.heap.size) (way++[fn]) (some ⟨g,0,none⟩))∧Below Z.heap.size Z wx)
   case first=>
    refine wp_region_held_drew (S:=(fun W=>W.cell? ⟨M,1,none⟩=some (.slice (some ⟨gw,0,none⟩) wyy.length capw)∧W.cell? ⟨gw,i,none⟩=some (.slice wa way.length wc)∧W.cell? ⟨w0.heap.size,0,none⟩=some (.string fn))) (by kernel_rfl) (HS8.out _ (Below.refl _ _).drew) (fun hHeld=>?_)
    have bX:Below Z.heap.size Z Z.drew:=(Below.refl _ _).drew;generalize Z.drew=wD at*;refine tkH 1 hHeld ?_;refine tkH 2 hHeld ?_;refine tkH 3 hHeld ?_;refine tkH 4 hHeld ?_;refine tkH 5 hHeld ?_;refine tkH 6 hHeld ?_;refine tkH 7 hHeld ?_;refine tkH 9 hHeld ?_;refine tkH 10 hHeld ?_;refine rdyH [0,11] ?_;refine rcH (fun K hK=>?_) ?_
    ·go_simp
     have bE:=aA2 wD (.cells #[] 9);obtain⟨gB,hgB⟩:∃g,g=wD.heap.size:=⟨_,rfl⟩;have nB:=aA3 (w:=wD) (N:=gB) #[] 9 hgB.symm;have oB:(wD.alloc (.cells #[] 9)).ownsRow Z.heap.size 9 1 (.slice (some ⟨gB,0,none⟩) 0 0) 0 []:=⟨rfl,Or.inr ⟨gB,0,_,rfl,by rw[hgB];exact bX.size,nB,Nat.le_refl _,by unfold maxLen;omega,rfl,rfl⟩⟩
     have ltB:gB<(wD.alloc (.cells #[] 9)).heap.size:=by rw[hgB];simp
     try have HNE:Hid (gB≠gN):=aA0 (by omega)
     have bX:=bX.trans (bE.mono bX.size);refine hK.out _ _ (HS8.out _ bX) (fun hHeld=>?_);clear hK K;try simp only[Act.put,sIA,sI0,sIS]
     rw[<-hgB];generalize wD.alloc (.cells #[] 9)=wE at*;clear hgB bE nB;refine rdyH [8,11] ?_;refine rcH (fun K hK=>?_) ?_
     ·refine aBO rfl (.tmp 44) (.tmp 51) 33 rfl Z.heap.size 9 i9 (.string ByteArray.empty) 1 16 Tryz.underlying33 hi9 hx0 hx1 hx2 rfl (by decide) gB 0 0 [] rfl oB wa way.length wc (way.map Value.string) rfl (by simp) (HLA.out wE bX) (aEW _) (by unfold maxLen;omega) (by omega) bX.size ?_
      intro g1 cap1 wA o1 hgA horA;simp only[Nat.zero_add,List.nil_append] at o1 ⊢;have bX:=bX.grown hgA bX.size (fun b hb=>by cases hb;exact(oB.lt gB rfl).1)
      try have oB:=aAE oB bA
      try have ltB:=Nat.lt_of_lt_of_le ltB bA.size
      refine hK.out _ _ (HS8.out _ bX) (fun hHeld=>?_);clear hK K;try simp only[Act.put,sIA,sI0,sIS]
      clear hgA horA oB ltB;refine rdyH [11] ?_;refine rcH (fun K hK=>?_) AllReadyH.nil;go_simp
      have bN:=aA2 wA (.cells #[.string fn] 9);obtain⟨gN,hgN⟩:∃g,g=wA.heap.size:=⟨_,rfl⟩;have nN:=aA3 (w:=wA) (N:=gN) #[.string fn] 9 hgN.symm;have ltN:gN<(wA.alloc (.cells #[.string fn] 9)).heap.size:=by rw[hgN];simp
      try have HNE:Hid (gB≠gN):=aA0 (by omega)
      have bX:=bX.trans (bN.mono bX.size);try have oB:=aAE oB bN
      try have ltB:=Nat.lt_of_lt_of_le ltB bN.size
      try have o1:=aAE o1 bN
      refine hK.out _ _ (HS8.out _ bX) (fun hHeld=>?_);clear hK K;try simp only[Act.put,sIA,sI0,sIS]
      rw[<-hgN];generalize wA.alloc (.cells #[.string fn] 9)=wN at*;clear hgN bN;refine rdyH [12] ?_;refine rcH (fun K hK=>?_) AllReadyH.nil;refine step_append_lies _ rfl (.tmp 52) (.tmp 55) 33 rfl Z.heap.size 9 i9 (.string ByteArray.empty) 1 16 Tryz.underlying33 hi9 hx0 hx1 hx2 rfl (by decide) (.slice (some ⟨g1,0,none⟩) way.length cap1) way.length (way.map Value.string) rfl o1 ⟨gN,0,none⟩ 1 1 [.string fn] rfl rfl (World.news_of_block nN) (by intro u hu;simp at hu;subst hu;rfl) (by omega) (by unfold maxLen;omega) (by omega) bX.size _ rfl ?_
      intro g2 cap2 wP o2 hgP horP hltP;have bX:=bX.grown hgP bX.size (fun b hb=>(o1.lt b hb).1);have HOW:=aA0 o2;clear hgP horP o2 o1 hltP;try have oB:=aAE oB bP
      try have ltB:=Nat.lt_of_lt_of_le ltB bP.size
      try have o1:=aAE o1 bP
      first| have nN:=(bP.block gN ltN).trans nN| have nN:=(hgA.block gN ltN (fun e=>HNE.out (Option.some.inj e).symm)).trans nN| skip
      try have ltN:=Nat.lt_of_lt_of_le ltN bP.size
      refine hK.out _ _ (HS8.out _ bX) (fun hHeld=>?_);clear hK K;try simp only[Act.put,sIA,sI0,sIS]
      refine tkH 13 hHeld ?_;refine wpAnyH_done (by kernel_rfl) ?_ _
      have HWY3:=aA0 (aGG (n:=way.length+1) (ns:=way++[fn]) (cap:=cap2) (g:=g2) (base:=Z.heap.size) (w:=wP) (by simpa using HOW.out) (fun j=>aIP HWAY.out HFSZ.out j) (by simp;unfold maxLen;omega))
      go_wp2_with fail
      go_meet
      case rel=>exact⟨g2,cap2,rfl,HWY3,bX⟩
     refine rcH (fun K hK=>?_) AllReadyH.nil;go_simp
     have bN:=aA2 wE (.cells #[.string fn] 9);obtain⟨gN,hgN⟩:∃g,g=wE.heap.size:=⟨_,rfl⟩;have nN:=aA3 (w:=wE) (N:=gN) #[.string fn] 9 hgN.symm;have ltN:gN<(wE.alloc (.cells #[.string fn] 9)).heap.size:=by rw[hgN];simp
     try have HNE:Hid (gB≠gN):=aA0 (by omega)
     have bX:=bX.trans (bN.mono bX.size);try have oB:=aAE oB bN
     try have ltB:=Nat.lt_of_lt_of_le ltB bN.size
     refine hK.out _ _ (HS8.out _ bX) (fun hHeld=>?_);clear hK K;try simp only[Act.put,sIA,sI0,sIS]
     rw[<-hgN];generalize wE.alloc (.cells #[.string fn] 9)=wN at*;clear hgN bN;refine rdyH [8] ?_;refine rcH (fun K hK=>?_) AllReadyH.nil;refine aBO rfl (.tmp 44) (.tmp 51) 33 rfl Z.heap.size 9 i9 (.string ByteArray.empty) 1 16 Tryz.underlying33 hi9 hx0 hx1 hx2 rfl (by decide) gB 0 0 [] rfl oB wa way.length wc (way.map Value.string) rfl (by simp) (HLA.out wN bX) (aEW _) (by unfold maxLen;omega) (by omega) bX.size ?_
     intro g1 cap1 wA o1 hgA horA;simp only[Nat.zero_add,List.nil_append] at o1 ⊢;have bX:=bX.grown hgA bX.size (fun b hb=>by cases hb;exact(oB.lt gB rfl).1)
     try have oB:=aAE oB bA
     try have ltB:=Nat.lt_of_lt_of_le ltB bA.size
     first| have nN:=(bA.block gN ltN).trans nN| have nN:=(hgA.block gN ltN (fun e=>HNE.out (Option.some.inj e).symm)).trans nN| skip
     try have ltN:=Nat.lt_of_lt_of_le ltN bA.size
     refine hK.out _ _ (HS8.out _ bX) (fun hHeld=>?_);clear hK K;try simp only[Act.put,sIA,sI0,sIS]
     clear hgA horA oB ltB;refine rdyH [12] ?_;refine rcH (fun K hK=>?_) AllReadyH.nil;refine step_append_lies _ rfl (.tmp 52) (.tmp 55) 33 rfl Z.heap.size 9 i9 (.string ByteArray.empty) 1 16 Tryz.underlying33 hi9 hx0 hx1 hx2 rfl (by decide) (.slice (some ⟨g1,0,none⟩) way.length cap1) way.length (way.map Value.string) rfl o1 ⟨gN,0,none⟩ 1 1 [.string fn] rfl rfl (World.news_of_block nN) (by intro u hu;simp at hu;subst hu;rfl) (by omega) (by unfold maxLen;omega) (by omega) bX.size _ rfl ?_
     intro g2 cap2 wP o2 hgP horP hltP;have bX:=bX.grown hgP bX.size (fun b hb=>(o1.lt b hb).1);have HOW:=aA0 o2;clear hgP horP o2 o1 hltP;try have oB:=aAE oB bP
     try have ltB:=Nat.lt_of_lt_of_le ltB bP.size
     first| have nN:=(bP.block gN ltN).trans nN| have nN:=(hgA.block gN ltN (fun e=>HNE.out (Option.some.inj e).symm)).trans nN| skip
     try have ltN:=Nat.lt_of_lt_of_le ltN bP.size
     try have o1:=aAE o1 bP
     refine hK.out _ _ (HS8.out _ bX) (fun hHeld=>?_);clear hK K;try simp only[Act.put,sIA,sI0,sIS]
     refine tkH 13 hHeld ?_;refine wpAnyH_done (by kernel_rfl) ?_ _
     have HWY3:=aA0 (aGG (n:=way.length+1) (ns:=way++[fn]) (cap:=cap2) (g:=g2) (base:=Z.heap.size) (w:=wP) (by simpa using HOW.out) (fun j=>aIP HWAY.out HFSZ.out j) (by simp;unfold maxLen;omega))
     go_wp2_with fail
     go_meet
     case rel=>exact⟨g2,cap2,rfl,HWY3,bX⟩
    refine rcH (fun K hK=>?_) AllReadyH.nil;go_simp
    have bN:=aA2 wD (.cells #[.string fn] 9);obtain⟨gN,hgN⟩:∃g,g=wD.heap.size:=⟨_,rfl⟩;have nN:=aA3 (w:=wD) (N:=gN) #[.string fn] 9 hgN.symm;have ltN:gN<(wD.alloc (.cells #[.string fn] 9)).heap.size:=by rw[hgN];simp
    try have HNE:Hid (gB≠gN):=aA0 (by omega)
    have bX:=bX.trans (bN.mono bX.size);refine hK.out _ _ (HS8.out _ bX) (fun hHeld=>?_);clear hK K;try simp only[Act.put,sIA,sI0,sIS]
    rw[<-hgN];generalize wD.alloc (.cells #[.string fn] 9)=wN at*;clear hgN bN;refine rdyH [0] ?_;refine rcH (fun K hK=>?_) AllReadyH.nil;go_simp
    have bE:=aA2 wN (.cells #[] 9);obtain⟨gB,hgB⟩:∃g,g=wN.heap.size:=⟨_,rfl⟩;have nB:=aA3 (w:=wN) (N:=gB) #[] 9 hgB.symm;have oB:(wN.alloc (.cells #[] 9)).ownsRow Z.heap.size 9 1 (.slice (some ⟨gB,0,none⟩) 0 0) 0 []:=⟨rfl,Or.inr ⟨gB,0,_,rfl,by rw[hgB];exact bX.size,nB,Nat.le_refl _,by unfold maxLen;omega,rfl,rfl⟩⟩
    have ltB:gB<(wN.alloc (.cells #[] 9)).heap.size:=by rw[hgB];simp
    try have HNE:Hid (gB≠gN):=aA0 (by omega)
    have bX:=bX.trans (bE.mono bX.size);first| have nN:=(bE.block gN ltN).trans nN| have nN:=(hgA.block gN ltN (fun e=>HNE.out (Option.some.inj e).symm)).trans nN| skip
    try have ltN:=Nat.lt_of_lt_of_le ltN bE.size
    refine hK.out _ _ (HS8.out _ bX) (fun hHeld=>?_);clear hK K;try simp only[Act.put,sIA,sI0,sIS]
    rw[<-hgB];generalize wN.alloc (.cells #[] 9)=wE at*;clear hgB bE nB;refine rdyH [8] ?_;refine rcH (fun K hK=>?_) AllReadyH.nil;refine aBO rfl (.tmp 44) (.tmp 51) 33 rfl Z.heap.size 9 i9 (.string ByteArray.empty) 1 16 Tryz.underlying33 hi9 hx0 hx1 hx2 rfl (by decide) gB 0 0 [] rfl oB wa way.length wc (way.map Value.string) rfl (by simp) (HLA.out wE bX) (aEW _) (by unfold maxLen;omega) (by omega) bX.size ?_
    intro g1 cap1 wA o1 hgA horA;simp only[Nat.zero_add,List.nil_append] at o1 ⊢;have bX:=bX.grown hgA bX.size (fun b hb=>by cases hb;exact(oB.lt gB rfl).1)
    first| have nN:=(bA.block gN ltN).trans nN| have nN:=(hgA.block gN ltN (fun e=>HNE.out (Option.some.inj e).symm)).trans nN| skip
    try have ltN:=Nat.lt_of_lt_of_le ltN bA.size
    try have oB:=aAE oB bA
    try have ltB:=Nat.lt_of_lt_of_le ltB bA.size
    refine hK.out _ _ (HS8.out _ bX) (fun hHeld=>?_);clear hK K;try simp only[Act.put,sIA,sI0,sIS]
    clear hgA horA oB ltB;refine rdyH [12] ?_;refine rcH (fun K hK=>?_) AllReadyH.nil;refine step_append_lies _ rfl (.tmp 52) (.tmp 55) 33 rfl Z.heap.size 9 i9 (.string ByteArray.empty) 1 16 Tryz.underlying33 hi9 hx0 hx1 hx2 rfl (by decide) (.slice (some ⟨g1,0,none⟩) way.length cap1) way.length (way.map Value.string) rfl o1 ⟨gN,0,none⟩ 1 1 [.string fn] rfl rfl (World.news_of_block nN) (by intro u hu;simp at hu;subst hu;rfl) (by omega) (by unfold maxLen;omega) (by omega) bX.size _ rfl ?_
    intro g2 cap2 wP o2 hgP horP hltP;have bX:=bX.grown hgP bX.size (fun b hb=>(o1.lt b hb).1);have HOW:=aA0 o2;clear hgP horP o2 o1 hltP;first| have nN:=(bP.block gN ltN).trans nN| have nN:=(hgA.block gN ltN (fun e=>HNE.out (Option.some.inj e).symm)).trans nN| skip
    try have ltN:=Nat.lt_of_lt_of_le ltN bP.size
    try have oB:=aAE oB bP
    try have ltB:=Nat.lt_of_lt_of_le ltB bP.size
    try have o1:=aAE o1 bP
    refine hK.out _ _ (HS8.out _ bX) (fun hHeld=>?_);clear hK K;try simp only[Act.put,sIA,sI0,sIS]
    refine tkH 13 hHeld ?_;refine wpAnyH_done (by kernel_rfl) ?_ _
    have HWY3:=aA0 (aGG (n:=way.length+1) (ns:=way++[fn]) (cap:=cap2) (g:=g2) (base:=Z.heap.size) (w:=wP) (by simpa using HOW.out) (fun j=>aIP HWAY.out HFSZ.out j) (by simp;unfold maxLen;omega))
    go_wp2_with fail
    go_meet
    case rel=>exact⟨g2,cap2,rfl,HWY3,bX⟩
   case rest=>
   obtain⟨gy,capy,rfl,HWY2,by0⟩:=hcut;obtain⟨wy0,rfl⟩:∃x,x=wc:=⟨wc,rfl⟩;clear HS8 HLA hi9 hx0 hx1 hx2 hcw hiw;obtain⟨-,hfm1,⟨p0,p1⟩,⟨q0,q1⟩⟩:=HZ.out wy0 by0;have HN1:=aA0 (HNX.out wy0 hfm1.old sty fn);clear hfm1;cases hnb:aCT ps sp sty fn
   ·have hm:=HMV0.out sty fn hnb;rw[hm] at HN1;go_upto_region 11 with(go_at_call 75;refine HN1.out.mono ?_;rintro e w4 ⟨rfl,hb4⟩)
    have b4:=by0.trans (hb4.mono by0.size);obtain⟨hwk4,hfm4,-,-⟩:=HZ.out w4 b4;have HW4:=aA0 hwk4;have HF4:=aA0 hfm4;obtain⟨ba,bc,hbv,-⟩:=hwk4.bads;obtain⟨-,-,m2,z2⟩:=hwk4.cells;rw[hbv] at m2;have HWS4:Hid (Strs w4 (OffR base M sv wv w4) (way++[fn]) (some ⟨gy,0,none⟩)):=aA0 ((HWY2.out.mono fun b hb=>hb4.block b hb.2).sub fun b hb=>by
     have h1:=HZS.out;have h2:=hb4.size;have h3:=HBW.out;have h5:=(HZ.out Z (Below.refl _ _)).2.1.size;have h6:=(HZ.out Z (Below.refl _ _)).2.1.nX;exact⟨by omega,by omega,fun e=>by have:=((HZ.out Z (Below.refl _ _)).1.srow.lt b e).2;omega,fun e=>by have:=((HZ.out Z (Below.refl _ _)).1.wrow.lt b e).2;omega,by omega⟩)
    have HLB:Hid (bdd.length<=30):=aA0 (by
     have h:=HOK.out k hk;rw[HK2.out] at h;have h1:=h.blen;have h2:=HLEN.out.1;have h3:bdd.length<=stt.length:=h1;omega)
    have hlb:=HLB.out;clear hwk4 hfm4 hbv p0 p1 q0 q1 HN1 hm;by_cases hbl:bdd.length=0
    ·have HN:Hid (K1=⟨stt,wyy,way++[fn]⟩):=aA0 (by
      rw[HFE.out];show(if false=true then _ else if aCT ps sp sty fn=true then _ else _)=_
      rw[hnb,if_neg (by simp),if_neg (by simp)]
      show Wk.mk stt wyy (if bdd.length=0 then way++[fn] else bdd)=_
      rw[if_pos hbl])
     rw[hbl] at m2;have HW5:=aA0 (HW4.out.setB HWS4.out (c:=capy));have HF5:=aA0 (HF4.out.setM 2 (.slice (some ⟨gy,0,none⟩) (way++[fn]).length capy));rw[List.length_append,List.length_singleton] at HW5 HF5;clear hbl;go_wp2_with fail
     go_roundw
     case measure=>simp[intOf];omega
     case rel=>exact⟨k+1,sv,wv,_,WV,by omega,by go_num,aA0 (by rw[HK1.out,HN.out];exact HW5.out),HF5⟩
    ·have HN:Hid (K1=⟨stt,wyy,bdd⟩):=aA0 (by
      rw[HFE.out];show(if false=true then _ else if aCT ps sp sty fn=true then _ else _)=_
      rw[hnb,if_neg (by simp),if_neg (by simp)]
      show Wk.mk stt wyy (if bdd.length=0 then way++[fn] else bdd)=_
      rw[if_neg hbl])
     have hbi:¬(bdd.length:Int)=0:=by omega
     go_wp2_with fail
     go_roundw
     case measure=>simp[intOf];omega
     case rel=>exact⟨k+1,sv,wv,bv,WV,by omega,by go_num,aA0 (by rw[HK1.out,HN.out];exact HW4.out),HF4⟩
   ·have hm:=HMV1.out sty fn hnb;rw[hm] at HN1;have hx4:=HXN.out sty fn hnb;have HFE2:Hid (K1=if aAV fo=true then⟨stt,wyy,bdd⟩ else if 0<=aCG stt ⟨aEO ps sp sty fn,fo⟩ then⟨stt,wyy,bdd⟩ else⟨stt++[⟨aEO ps sp sty fn,fo⟩],wyy++[way++[fn]],bdd⟩):=aA0 (by
     rw[HFE.out];show(if false=true then _ else if aCT ps sp sty fn=true then _ else _)=_
     rw[hnb,if_neg (by simp),if_pos rfl])
    clear HFE hm;generalize aEO ps sp sty fn=xn at*;have hxp:¬(xn:Int)<0:=by omega
    go_upto_region 13 with(go_at_call 75;refine HN1.out.mono ?_;rintro e w4 ⟨rfl,hb4⟩)
    have b4:=by0.trans (hb4.mono by0.size);clear p0 p1 q0 q1 HN1;obtain⟨-,-,⟨p0,p1⟩,-⟩:=HZ.out w4 b4;go_upto_region 14 with fail
    have bX:=aA2 w4 (.cells #[.int .i64 xn,.string fo] 72);have nX:=aA3 (w:=w4) (N:=w4.heap.size) #[.int .i64 xn,.string fo] 72 rfl;have zX:(w4.alloc (.cells #[.int .i64 xn,.string fo] 72)).heap.size=w4.heap.size+1:=by simp
    have b5:=b4.trans (bX.mono b4.size);have HWS5:Hid (∀W,Below (w4.alloc (.cells #[.int .i64 xn,.string fo] 72)).heap.size (w4.alloc (.cells #[.int .i64 xn,.string fo] 72)) W->Strs W (fun b=>Z.heap.size<=b∧b<W.heap.size∧b<w4.heap.size) (way++[fn]) (some ⟨gy,0,none⟩)):=aA0 fun W hW=>by
     have hb:=hb4.trans ((bX.trans (hW.mono (by omega))).mono hb4.size)
     exact(HWY2.out.mono fun b hb'=>hb.block b hb'.2).sub fun b hb'=>⟨hb'.1,by have:=hb.size;omega,by have:=hb4.size;omega⟩
    clear p0 p1;generalize w4.alloc (.cells #[.int .i64 xn,.string fo] 72)=Y at*;have HY:Hid (∀W,Below Y.heap.size Y W->(W.cell? ⟨w4.heap.size,0,none⟩=some (.int .i64 xn)∧W.cell? ⟨w4.heap.size,1,none⟩=some (.string fo))∧W.cell? ⟨w0.heap.size,1,none⟩=some (.string fo)∧WkM base M stt wyy bdd sv wv bv WV W∧FrmR base w.heap.size w X M sv wv W):=aA0 fun W hW=>by
     have h:=(hW.block w4.heap.size (by omega)).trans nX
     have hz:=HZ.out W (b5.trans (hW.mono b5.size));exact⟨⟨(aA1 h 0 (by simp)).1,(aA1 h 1 (by simp)).1⟩,hz.2.2.1.2,hz.1,hz.2.1⟩
    have HYS:Hid (Z.heap.size<=w4.heap.size∧w4.heap.size<Y.heap.size):=aA0 ⟨b4.size,by omega⟩
    have HROW:Hid (∀g,(sv.ownBlock=some g∨wv.ownBlock=some g)->g<Z.heap.size):=aA0 fun g hg=>by
     have h:=(HZ.out Z (Below.refl _ _)).1;rcases hg with e| e
     ·exact(h.srow.lt g e).2
     ·exact(h.wrow.lt g e).2
    have HMZ:Hid (M<Z.heap.size):=aA0 (HZ.out Z (Below.refl _ _)).1.mlt;clear bX nX zX b4 b5 hb4 by0 HWY2;have hln:=HLEN.out;have bD:Below Y.heap.size Y Y.drew:=(Below.refl _ _).drew;obtain⟨sa,sc,hsv⟩:=aIM (HY.out Y (Below.refl _ _)).2.2.1.srow;have HSR:Hid (∀W,Below Y.heap.size Y W->aRF W (fun b=>base<=b∧b<W.heap.size) stt sa):=aA0 fun W hW=>by
     have h:=(HY.out W hW).2.2.1.srow;rw[hsv] at h;exact(aJY h).2.2
    have HS14:Hid (∀W,Below Y.heap.size Y W->W.cell? ⟨w0.heap.size,1,none⟩=some (.string fo)∧W.cell? ⟨M,0,none⟩=some (.slice sa stt.length sc)∧W.cell? ⟨w4.heap.size,0,none⟩=some (.int .i64 xn)∧W.cell? ⟨w4.heap.size,1,none⟩=some (.string fo)):=aA0 fun W hW=>⟨(HY.out W hW).2.1,by rw[<-hsv];exact(HY.out W hW).2.2.1.cells.1,(HY.out W hW).1⟩
    have HSC:=aA0 (fun W=>aAY fo W);cases hsc:aAV fo
    rotate_left
    ·have HN:Hid (K1=⟨stt,wyy,bdd⟩):=aA0 (by rw[HFE2.out,hsc];rfl)
     rw[hsc] at HSC;refine wp_region_held_drew (S:=(fun W=>W.cell? ⟨w0.heap.size,1,none⟩=some (.string fo)∧W.cell? ⟨M,0,none⟩=some (.slice sa stt.length sc)∧W.cell? ⟨w4.heap.size,0,none⟩=some (.int .i64 xn)∧W.cell? ⟨w4.heap.size,1,none⟩=some (.string fo))) (by kernel_rfl) (HS14.out _ bD) (fun hHeld=>?_)
     refine tkH 0 hHeld ?_;refine tkH 1 hHeld ?_;refine rdyH [2] (rcH (fun K hK=>?_) AllReadyH.nil);go_simp
     refine(HSC.out _).mono ?_;rintro e wl ⟨rfl,rfl⟩;refine hK.out _ _ (HS14.out _ bD) (fun hHeld=>?_);clear hK K;try simp only[Act.put,sIA,sI0,sIS]
     refine tkH 3 hHeld ?_;refine tkH 4 hHeld ?_;refine tnH 5 hHeld ?_;refine tnH 6 hHeld ?_;refine tnH 7 hHeld ?_;refine tnH 8 hHeld ?_;refine tnH 9 hHeld ?_;refine tnH 10 hHeld ?_;refine tnH 11 hHeld ?_;refine tkH 12 hHeld ?_;refine wpAnyH_done (by kernel_rfl) ?_ _
     have HW5:=aA0 (HY.out _ bD).2.2.1;have HF5:=aA0 (HY.out _ bD).2.2.2;go_wp2_with fail
     go_roundw
     case measure=>simp[intOf];omega
     case rel=>exact⟨k+1,sv,wv,bv,WV,by omega,by go_num,aA0 (by rw[HK1.out,HN.out];exact HW5.out),HF5⟩
    rw[hsc] at HSC;have HSN:=aA0 (fun W (hW:Below Y.heap.size Y W)=>aPI stt W _ sa sc ⟨xn,fo⟩ (HSR.out W hW) (by omega))
    simp only at HSN;rcases aQ2 stt ⟨xn,fo⟩ with hse| ⟨q,hse⟩
    rotate_left
    ·have HN:Hid (K1=⟨stt,wyy,bdd⟩):=aA0 (by rw[HFE2.out,hsc,hse,if_neg (by simp),if_pos (by omega)])
     rw[hse] at HSN;have hqn:¬(q:Int)<0:=by omega
     refine wp_region_held_drew (S:=(fun W=>W.cell? ⟨w0.heap.size,1,none⟩=some (.string fo)∧W.cell? ⟨M,0,none⟩=some (.slice sa stt.length sc)∧W.cell? ⟨w4.heap.size,0,none⟩=some (.int .i64 xn)∧W.cell? ⟨w4.heap.size,1,none⟩=some (.string fo))) (by kernel_rfl) (HS14.out _ bD) (fun hHeld=>?_)
     refine tkH 0 hHeld ?_;refine tkH 1 hHeld ?_;refine rdyH [2] (rcH (fun K hK=>?_) AllReadyH.nil);go_simp
     refine(HSC.out _).mono ?_;rintro e wl ⟨rfl,rfl⟩;refine hK.out _ _ (HS14.out _ bD) (fun hHeld=>?_);clear hK K;try simp only[Act.put,sIA,sI0,sIS]
     refine tkH 3 hHeld ?_;refine tkH 4 hHeld ?_;refine tkH 5 hHeld ?_;refine tkH 6 hHeld ?_;refine tkH 7 hHeld ?_;refine tkH 8 hHeld ?_;refine tkH 9 hHeld ?_;refine rdyH [10] (rcH (fun K hK=>?_) AllReadyH.nil);go_simp
     refine(HSN.out _ bD).mono ?_;rintro e wf ⟨rfl,hbf⟩;have bE2:=bD.trans (hbf.mono bD.size);refine hK.out _ _ (HS14.out wf bE2) (fun hHeld=>?_);clear hK K;try simp only[Act.put,sIA,sI0,sIS]
     refine tkH 11 hHeld ?_;refine tkH 12 hHeld ?_;refine wpAnyH_done (by kernel_rfl) ?_ _
     have HW5:=aA0 (HY.out _ bE2).2.2.1;have HF5:=aA0 (HY.out _ bE2).2.2.2;go_wp2_with fail
     go_roundw
     case measure=>simp[intOf];omega
     case rel=>exact⟨k+1,sv,wv,bv,WV,by omega,by go_num,aA0 (by rw[HK1.out,HN.out];exact HW5.out),HF5⟩
    have HN:Hid (K1=⟨stt++[⟨xn,fo⟩],wyy++[way++[fn]],bdd⟩):=aA0 (by rw[HFE2.out,hsc,hse,if_neg (by simp),if_neg (by omega)])
    rw[hse] at HSN;refine wp_region_held_drew (S:=(fun W=>W.cell? ⟨w0.heap.size,1,none⟩=some (.string fo)∧W.cell? ⟨M,0,none⟩=some (.slice sa stt.length sc)∧W.cell? ⟨w4.heap.size,0,none⟩=some (.int .i64 xn)∧W.cell? ⟨w4.heap.size,1,none⟩=some (.string fo))) (by kernel_rfl) (HS14.out _ bD) (fun hHeld=>?_)
    refine tkH 0 hHeld ?_;refine tkH 1 hHeld ?_;refine rdyH [2] (rcH (fun K hK=>?_) AllReadyH.nil);go_simp
    refine(HSC.out _).mono ?_;rintro e wl ⟨rfl,rfl⟩;refine hK.out _ _ (HS14.out _ bD) (fun hHeld=>?_);clear hK K;try simp only[Act.put,sIA,sI0,sIS]
    refine tkH 3 hHeld ?_;refine tkH 4 hHeld ?_;refine tkH 5 hHeld ?_;refine tkH 6 hHeld ?_;refine tkH 7 hHeld ?_;refine tkH 8 hHeld ?_;refine tkH 9 hHeld ?_;refine rdyH [10] (rcH (fun K hK=>?_) AllReadyH.nil);go_simp
    refine(HSN.out _ bD).mono ?_;rintro e wf ⟨rfl,hbf⟩;have bE2:=bD.trans (hbf.mono bD.size);refine hK.out _ _ (HS14.out wf bE2) (fun hHeld=>?_);clear hK K;try simp only[Act.put,sIA,sI0,sIS]
    refine tkH 11 hHeld ?_;refine tkH 12 hHeld ?_;refine wpAnyH_done (by kernel_rfl) ?_ _
    clear HS14 HSN HSC HSR hsc hse;go_upto_region 15 with fail
    obtain⟨iS,hiS,hS0,hS1,hS2⟩:=info_parts aTZ;obtain⟨iW,hiW,hW0,hW1,hW2⟩:=info_parts aVG;have HX15:Hid (∀W,Below Y.heap.size Y W->∀wF,W.grownBy wF sv.ownBlock->(wF.cell? ⟨w4.heap.size,0,none⟩=some (.int .i64 xn)∧wF.cell? ⟨w4.heap.size,1,none⟩=some (.string fo))∧∀v,(wF.setCell ⟨M,0,none⟩ v).cell? ⟨w4.heap.size,0,none⟩=some (.int .i64 xn)∧(wF.setCell ⟨M,0,none⟩ v).cell? ⟨w4.heap.size,1,none⟩=some (.string fo)):=aA0 fun W hW wF hg=>by
     have h1:=HYS.out;have h2:=hW.size;have h3:=HMZ.out;have hb:=hg.block w4.heap.size (by omega) fun e=>by have:=HROW.out _ (.inl e.symm);omega
     have p0:=(World.cell?_of_block (a:=⟨w4.heap.size,0,none⟩) hb).trans (HY.out W hW).1.1;have p1:=(World.cell?_of_block (a:=⟨w4.heap.size,1,none⟩) hb).trans (HY.out W hW).1.2;exact⟨⟨p0,p1⟩,fun v=>⟨(World.cell?_setCell_other _ _ _ _ (by intro e;simp only[Addr.mk.injEq] at e;omega)).trans p0,(World.cell?_setCell_other _ _ _ _ (by intro e;simp only[Addr.mk.injEq] at e;omega)).trans p1⟩⟩
    have HBB:Hid (base<=Y.heap.size):=aA0 (by have h1:=HYS.out;have h2:=HBW.out;have:=HMZ.out;omega)
    have HWS6:Hid (∀W,Below Y.heap.size Y W->∀wF,W.grownBy wF sv.ownBlock->∀v,(∀g,v.ownBlock=some g->sv.ownBlock=some g∨W.heap.size<=g)->Strs (wF.setCell ⟨M,0,none⟩ v) (OffR base M v wv (wF.setCell ⟨M,0,none⟩ v)) (way++[fn]) (some ⟨gy,0,none⟩)):=aA0 fun W hW wF hg v hv=>by
     have h1:=HYS.out;have h2:=hW.size;have h3:=HMZ.out;have h5:=HBW.out;have h6:=hg.size;refine((HWS5.out W hW).mono fun b hb=>(Below.heap_setCell _ _ _ _ (by show b≠M;have:=hb.1;omega)).trans (hg.block b (by have:=hb.2.1;omega) fun e=>by have:=HROW.out _ (.inl e.symm);have:=hb.1;omega)).sub fun b hb=>⟨by have:=hb.1;omega,by rw[aC1];have:=hb.2.1;omega,fun e=>?_,fun e=>by have:=HROW.out _ (.inr e);have:=hb.1;omega,by have:=hb.1;omega⟩
     rcases hv b e with e1| e1
     ·have:=HROW.out _ (.inl e1);have:=hb.1;omega
     ·have:=hb.2.2;omega
    clear hsv;obtain⟨n,hn⟩:∃n,n=stt.length:=⟨_,rfl⟩;obtain⟨n2,hn2⟩:∃n,n=wyy.length:=⟨_,rfl⟩;have hnl:n<=20:=by omega
    have hnl2:n2<=20:=by omega
    have HNN:=aA0 hn;have HNN2:=aA0 hn2;clear hn hn2 hln bD;have bX:=bE2;clear bE2;refine wp_region_held_drew (S:=(fun W=>W.cell? ⟨w4.heap.size,0,none⟩=some (.int .i64 xn)∧W.cell? ⟨w4.heap.size,1,none⟩=some (.string fo))) (by kernel_rfl) (HY.out _ bX.drew).1 (fun hHeld=>?_)
    replace bX:=bX.drew
    generalize wf.drew=wD at*;refine tkH 0 hHeld ?_;refine tkH 1 hHeld ?_;refine tkH 2 hHeld ?_;refine tkH 3 hHeld ?_;refine tkH 5 hHeld ?_;refine rdyH [4,6] ?_;refine rcH (fun K hK=>?_) ?_
    ·have hc:=(HY.out wD bX).2.2.1.cells.1;go_simp
     clear hc;refine hK.out _ _ (HY.out wD bX).1 (fun hHeld=>?_);clear hK K;try simp only[Act.put,sIA,sI0,sIS]
     refine rdyH [6] ?_;refine rcH (fun K hK=>?_) AllReadyH.nil;go_simp
     have bE:=aA2 wD (.cells #[.int .i64 xn,.string fo] 72);obtain⟨gE,hgE⟩:∃g,g=wD.heap.size:=⟨_,rfl⟩;have nE:=aA3 (w:=wD) (N:=gE) #[.int .i64 xn,.string fo] 72 hgE.symm;have bX:=bX.trans (bE.mono bX.size);refine hK.out _ _ (HY.out _ bX).1 (fun hHeld=>?_);clear hK K;try simp only[Act.put,sIA,sI0,sIS]
     rw[<-hgE];generalize wD.alloc (.cells #[.int .i64 xn,.string fo] 72)=wE at*;clear hgE bE;refine rdyH [7] ?_;refine rcH (fun K hK=>?_) AllReadyH.nil;refine step_append_lies _ rfl (.tmp 98) (.tmp 100) 24 rfl base 72 iS (.agg #[.int .i64 0,.string ByteArray.empty]) 2 24 Tryz.underlying24 hiS hS0 hS1 hS2 rfl (by decide) sv n (aE0 stt) rfl (by rw[HNN.out];exact(HY.out wE bX).2.2.1.srow) ⟨gE,0,none⟩ 1 1 [.int .i64 xn,.string fo] rfl rfl (World.news_of_block nE) (by intro u hu;simp at hu;rcases hu with rfl| rfl<;>rfl) (by omega) (by unfold maxLen;omega) (by omega) (Nat.le_trans HBB.out bX.size) _ rfl ?_
     intro gF capF wF oF hgF horF hltF;have hnF:∀g,(Value.slice (some ⟨gF,0,none⟩) (n+1) capF).ownBlock=some g->sv.ownBlock=some g∨g=wE.heap.size:=fun g hg=>by simp only[Value.ownBlock,Option.some.injEq] at hg;subst hg;exact horF
     have HST:=aA0 (aVC (x:=⟨xn,fo⟩) (HY.out wE bX).2.2.1 (HY.out wE bX).2.2.2 (by rw[<-HNN.out];exact oF) hgF hnF)
     have HXF:=aA0 (HX15.out wE bX wF hgF);have HSF:=aA0 (HWS6.out wE bX wF hgF (Value.slice (some ⟨gF,0,none⟩) (n+1) capF) (fun g hg=>(hnF g hg).imp id (fun e=>Nat.le_of_eq e.symm)));clear oF hgF horF hltF hnF;refine hK.out _ _ HXF.out.1 (fun hHeld=>?_);clear hK K;try simp only[Act.put,sIA,sI0,sIS]
     refine tkH 8 hHeld ?_;refine tkH 9 hHeld ?_;refine rdyH [10] ?_;refine rcH (fun K hK=>?_) AllReadyH.nil;obtain⟨⟨hc,hz⟩,-⟩:=HST.out;go_simp
     clear hc hz;refine hK.out _ _ (HXF.out.2 _) (fun hHeld=>?_);clear hK K;try simp only[Act.put,sIA,sI0,sIS]
     refine wpAnyH_done (by kernel_rfl) ?_ _
     obtain⟨-,hw5,hf5⟩:=HST.out;have HW5:=aA0 hw5;have HF5:=aA0 hf5;clear hw5 hf5 HST HXF;generalize wF.setCell ⟨M,0,none⟩ (Value.slice (some ⟨gF,0,none⟩) (n+1) capF)=wQ at*;have bU:=aA2 wQ (.cells #[.slice (some ⟨gy,0,none⟩) (way.length+1) capy] 33);have nU:=aA3 (w:=wQ) (N:=wQ.heap.size) #[.slice (some ⟨gy,0,none⟩) (way.length+1) capy] 33 rfl;have HW6:=aA0 (HW5.out.keep bU);have HF6:=aA0 (HF5.out.keep bU);have HS6:Hid (Strs _ (OffR base M _ wv _) (way++[fn]) (some ⟨gy,0,none⟩)):=aA0 ((HSF.out.mono fun b hb=>bU.block b hb.2.1).sub fun b hb=>⟨hb.1,Nat.lt_of_lt_of_le hb.2.1 bU.size,hb.2.2⟩);obtain⟨-,m1,-,-⟩:=HW5.out.cells;have zU:base<=(wQ.alloc (.cells #[.slice (some ⟨gy,0,none⟩) (way.length+1) capy] 33)).heap.size:=by have:=HW5.out.mlt;have:=HW5.out.mB;simp;omega
     go_wp2_with (
      at_builtin
      refine wpList_append_lies _ rfl _ _ 54 rfl base 33 iW (.slice none 0 0) 1 24 Tryz.underlying54 hiW hW0 hW1 hW2 rfl (by decide) wv n2 WV rfl (by rw[HNN2.out];exact HW6.out.wrow) ⟨wQ.heap.size,0,none⟩ 1 1 [.slice (some ⟨gy,0,none⟩) (way.length+1) capy] rfl rfl (World.news_of_block nU) (by intro u hu;simp at hu;subst hu;rfl) (by omega) (by unfold maxLen;omega) (by omega) zU _ rfl ?_
      intro gG capG wG oG hgG horG hltG;have hnG:∀g,(Value.slice (some ⟨gG,0,none⟩) (n2+1) capG).ownBlock=some g->wv.ownBlock=some g∨g=(wQ.alloc (.cells #[.slice (some ⟨gy,0,none⟩) (way.length+1) capy] 33)).heap.size:=fun g hg=>by simp only[Value.ownBlock,Option.some.injEq] at hg;subst hg;exact horG
      obtain⟨⟨c1,z1⟩,hw7,hf7⟩:=aUU (way:=way++[fn]) (c:=capy) HW6.out HF6.out HS6.out (by rw[<-HNN2.out];simpa using oG) hgG hnG
      have HW7:=aA0 hw7;have HF7:=aA0 hf7;clear oG hgG horG hltG hnG hw7 hf7)
     go_roundw
     case measure=>simp[intOf];omega
     case rel=>exact⟨k+1,_,_,bv,_,by omega,by go_num,aA0 (by rw[HK1.out,HN.out];exact HW7.out),HF7⟩
    refine rcH (fun K hK=>?_) AllReadyH.nil;go_simp
    have bE:=aA2 wD (.cells #[.int .i64 xn,.string fo] 72);obtain⟨gE,hgE⟩:∃g,g=wD.heap.size:=⟨_,rfl⟩;have nE:=aA3 (w:=wD) (N:=gE) #[.int .i64 xn,.string fo] 72 hgE.symm;have bX:=bX.trans (bE.mono bX.size);refine hK.out _ _ (HY.out _ bX).1 (fun hHeld=>?_);clear hK K;try simp only[Act.put,sIA,sI0,sIS]
    rw[<-hgE];generalize wD.alloc (.cells #[.int .i64 xn,.string fo] 72)=wE at*;clear hgE bE;refine rdyH [4] ?_;refine rcH (fun K hK=>?_) AllReadyH.nil;have hc:=(HY.out wE bX).2.2.1.cells.1;go_simp
    clear hc;refine hK.out _ _ (HY.out wE bX).1 (fun hHeld=>?_);clear hK K;try simp only[Act.put,sIA,sI0,sIS]
    refine rdyH [7] ?_;refine rcH (fun K hK=>?_) AllReadyH.nil;refine step_append_lies _ rfl (.tmp 98) (.tmp 100) 24 rfl base 72 iS (.agg #[.int .i64 0,.string ByteArray.empty]) 2 24 Tryz.underlying24 hiS hS0 hS1 hS2 rfl (by decide) sv n (aE0 stt) rfl (by rw[HNN.out];exact(HY.out wE bX).2.2.1.srow) ⟨gE,0,none⟩ 1 1 [.int .i64 xn,.string fo] rfl rfl (World.news_of_block nE) (by intro u hu;simp at hu;rcases hu with rfl| rfl<;>rfl) (by omega) (by unfold maxLen;omega) (by omega) (Nat.le_trans HBB.out bX.size) _ rfl ?_
    intro gF capF wF oF hgF horF hltF;have hnF:∀g,(Value.slice (some ⟨gF,0,none⟩) (n+1) capF).ownBlock=some g->sv.ownBlock=some g∨g=wE.heap.size:=fun g hg=>by simp only[Value.ownBlock,Option.some.injEq] at hg;subst hg;exact horF
    have HST:=aA0 (aVC (x:=⟨xn,fo⟩) (HY.out wE bX).2.2.1 (HY.out wE bX).2.2.2 (by rw[<-HNN.out];exact oF) hgF hnF)
    have HXF:=aA0 (HX15.out wE bX wF hgF);have HSF:=aA0 (HWS6.out wE bX wF hgF (Value.slice (some ⟨gF,0,none⟩) (n+1) capF) (fun g hg=>(hnF g hg).imp id (fun e=>Nat.le_of_eq e.symm)));clear oF hgF horF hltF hnF;refine hK.out _ _ HXF.out.1 (fun hHeld=>?_);clear hK K;try simp only[Act.put,sIA,sI0,sIS]
    refine tkH 8 hHeld ?_;refine tkH 9 hHeld ?_;refine rdyH [10] ?_;refine rcH (fun K hK=>?_) AllReadyH.nil;obtain⟨⟨hc,hz⟩,-⟩:=HST.out;go_simp
    clear hc hz;refine hK.out _ _ (HXF.out.2 _) (fun hHeld=>?_);clear hK K;try simp only[Act.put,sIA,sI0,sIS]
    refine wpAnyH_done (by kernel_rfl) ?_ _
    obtain⟨-,hw5,hf5⟩:=HST.out;have HW5:=aA0 hw5;have HF5:=aA0 hf5;clear hw5 hf5 HST HXF;generalize wF.setCell ⟨M,0,none⟩ (Value.slice (some ⟨gF,0,none⟩) (n+1) capF)=wQ at*;have bU:=aA2 wQ (.cells #[.slice (some ⟨gy,0,none⟩) (way.length+1) capy] 33);have nU:=aA3 (w:=wQ) (N:=wQ.heap.size) #[.slice (some ⟨gy,0,none⟩) (way.length+1) capy] 33 rfl;have HW6:=aA0 (HW5.out.keep bU);have HF6:=aA0 (HF5.out.keep bU);have HS6:Hid (Strs _ (OffR base M _ wv _) (way++[fn]) (some ⟨gy,0,none⟩)):=aA0 ((HSF.out.mono fun b hb=>bU.block b hb.2.1).sub fun b hb=>⟨hb.1,Nat.lt_of_lt_of_le hb.2.1 bU.size,hb.2.2⟩);obtain⟨-,m1,-,-⟩:=HW5.out.cells;have zU:base<=(wQ.alloc (.cells #[.slice (some ⟨gy,0,none⟩) (way.length+1) capy] 33)).heap.size:=by have:=HW5.out.mlt;have:=HW5.out.mB;simp;omega
    go_wp2_with (
     at_builtin
     refine wpList_append_lies _ rfl _ _ 54 rfl base 33 iW (.slice none 0 0) 1 24 Tryz.underlying54 hiW hW0 hW1 hW2 rfl (by decide) wv n2 WV rfl (by rw[HNN2.out];exact HW6.out.wrow) ⟨wQ.heap.size,0,none⟩ 1 1 [.slice (some ⟨gy,0,none⟩) (way.length+1) capy] rfl rfl (World.news_of_block nU) (by intro u hu;simp at hu;subst hu;rfl) (by omega) (by unfold maxLen;omega) (by omega) zU _ rfl ?_
     intro gG capG wG oG hgG horG hltG;have hnG:∀g,(Value.slice (some ⟨gG,0,none⟩) (n2+1) capG).ownBlock=some g->wv.ownBlock=some g∨g=(wQ.alloc (.cells #[.slice (some ⟨gy,0,none⟩) (way.length+1) capy] 33)).heap.size:=fun g hg=>by simp only[Value.ownBlock,Option.some.injEq] at hg;subst hg;exact horG
     obtain⟨⟨c1,z1⟩,hw7,hf7⟩:=aUU (way:=way++[fn]) (c:=capy) HW6.out HF6.out HS6.out (by rw[<-HNN2.out];simpa using oG) hgG hnG
     have HW7:=aA0 hw7;have HF7:=aA0 hf7;clear oG hgG horG hltG hnG hw7 hf7)
    go_roundw
    case measure=>simp[intOf];omega
    case rel=>exact⟨k+1,_,_,bv,_,by omega,by go_num,aA0 (by rw[HK1.out,HN.out];exact HW7.out),HF7⟩
end Go.Proofs.YtcebpkeiaiiphaaGreatDoor
