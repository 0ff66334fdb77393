import Derived.Test.YtcebpkeiaiiphaaGreatDoorRC45
set_option linter.unusedSimpArgs false
set_option linter.unusedVariables false
namespace Go.Proofs.YtcebpkeiaiiphaaGreatDoor
open Go.RowKit Go.Maps Go.MapKept
theorem aFN{w:World}{base base':Nat}{e:TypeId}{sz n:Nat}{v:Value}{xs:List Value}(h:w.ownsRow base e sz v n xs)(hb:base'<=base):w.ownsRow base' e sz v n xs:=by
 refine⟨h.1,?_⟩;rcases h.2 with h2| ⟨g,cap,cur,h2,h3,h4⟩
 ·exact .inl h2
 ·exact .inr ⟨g,cap,cur,h2,by omega,h4⟩
theorem aT5{l:List Sta}(h:l.Nodup){i j:Nat}(hi:i<l.length)(hj:j<l.length)(e:sta l i=sta l j):i=j:=by
 have a1:sta l i=l[i]:=by simp[sta,List.getD_eq_getElem?_getD,hi]
 have a2:sta l j=l[j]:=by simp[sta,List.getD_eq_getElem?_getD,hj]
 rw[a1,a2] at e;rcases Nat.lt_trichotomy i j with h1| h1| h1
 ·exact absurd e (List.pairwise_iff_getElem.1 h i j hi hj h1)
 ·exact h1
 ·exact absurd e.symm (List.pairwise_iff_getElem.1 h j i hj hi h1)
theorem aJS{w:World}{base:Nat}{e:TypeId}{k:Nat}{v:Value}{n:Nat}{xs:List Value}(h:w.ownsRow base e k v n xs):∃(a:Option Addr) (cap:Nat),v=.slice a n cap:=by
 rcases h.2 with⟨rfl,rfl⟩| ⟨g,cap,cur,rfl,-⟩
 ·exact⟨none,0,rfl⟩
 ·exact⟨_,cap,rfl⟩
theorem aQB{way:List ByteArray}{fn:ByteArray}(h:∀t∈ way,t.size<=1048576)(hf:fn.size<=maxLen)(j:Nat):(nth (way++[fn]) j).size<=maxLen:=by
 by_cases hj:j<(way++[fn]).length
 ·have e:nth (way++[fn]) j=(way++[fn])[j]:=by simp only[nth,List.getD_eq_getElem?_getD,List.getElem?_eq_getElem hj];rfl
  have hm:nth (way++[fn]) j∈ way++[fn]:=by rw[e];exact List.getElem_mem hj
  rw[List.mem_append,List.mem_singleton] at hm;rcases hm with hm| hm
  ·have:=h _ hm;unfold maxLen;omega
  ·rw[hm];exact hf
 ·have e:nth (way++[fn]) j=ByteArray.empty:=by simp only[nth,List.getD_eq_getElem?_getD,List.getElem?_eq_none (Nat.le_of_not_lt hj)];rfl
  rw[e];simp[maxLen]
theorem Wk.flds_monoJ(ps:List Pt)(s:Sta)(way:List ByteArray)(fs:List F)(K:Wk){j k:Nat}(h:j<=k):(K.flds ps s way fs j).st<+:(K.flds ps s way fs k).st:=by
 induction h with
 |refl=>exact List.prefix_refl _
 |step h ih=>exact ih.trans (Wk.fld_mono ps s way _ _)
theorem aUP{a b:List Sta}(h:a<+:b):a<+:b:=h
def aQV(stop:Bool)(lb:Nat)(wa:Option Addr)(n c:Nat)(ans:Bool)(W:World)(e:Ending)(w':World):Prop:=
 (stop=true∧ans=false->e=.returned (.bool false)∧w'=W.setCell ⟨lb,0,none⟩ (.slice wa n c))∧(stop=false∨ans=true->e=.returned (.bool true)∧w'=W)
def aLF(stop:Bool)(lb base N m:Nat)(c0 c1 c2:Value)(ps:List Pt)(all:Pt)(w:World)(e:Ending)(w':World):Prop:=e=.returned (.tuple #[])∧
 (stop=false∨(wkE ps all).bad=[]->Below base w w'∧∃sv,RcI base N m c0 c1 c2 (wkE ps all).st (wkE ps all).wy sv w')∧
 (stop=true∧(wkE ps all).bad≠[]->∃W a c,Below base w W∧w'=W.setCell ⟨lb,0,none⟩ (.slice a (wkE ps all).bad.length c)∧W.ownsRow base 9 1 (.slice a (wkE ps all).bad.length c) (wkE ps all).bad.length ((wkE ps all).bad.map Value.string))
set_option maxRecDepth 20000 in
set_option maxHeartbeats 3200000 in
theorem aSS(ps:List Pt)(all:Pt)(w:World)(B base N m:Nat)(a:Option Addr)(c:Nat)(ta:Option Addr)(tc:Nat)(sv:Value)(stop:Bool)(lb fid:Nat)(caps:Array Value)
  (ho:okP all=true) (hp:0<ps.length) (h4:ps.length<=4) (hnl:∀m nm k,(sayF (pth ps m) nm k).needs.length<=1000000000) (hR:aAP w (·<B) ps a) (hA:PRep w (·<B) all (.agg #[.string all.name,.slice ta all.types.length tc])) (hB:B<=base)
  (hr:RcI base N m (.slice a ps.length c) (.string all.name) (.slice ta all.types.length tc) [⟨0,qry⟩] [[]] sv w)
  (hcf:∀(args:Array Value) (W:World),Sem.run Tryz.prog (callFunc fid args) W=Result.ok (Next.enter fid args) W)
  (hT:∀(W:World) (wa:Option Addr) (n k:Nat) (ans:Bool),Below base w W->Calls Tryz.prog fid (#[.slice wa n k,.bool ans]++caps) W (aQV stop lb wa n k ans W)):
  Calls Tryz.prog 31 #[.pointer (some ⟨N,0,none⟩),.func (.func fid) #[] caps] w (aLF stop lb base N m (.slice a ps.length c) (.string all.name) (.slice ta all.types.length tc) ps all w):=by
 obtain⟨hn30,hend,hmore⟩:=aRC ho hp h4;have HEN:=aA0 hend;have HMO:=aA0 hmore;have HOKW:=aA0 (fun n (h:n<=wkN ps all)=>aOB ho hp n fun i hi=>hmore i (by omega))
 have HFEW:Hid (∀n,n<=wkN ps all->(wkTo ps all n).st.length<=20):=aA0 fun n h=>(aOB ho hp n fun i hi=>hmore i (by omega)).few h4 (aEB ho).2
 have hsz:=(aKE all ho).1;have HFT:Hid (∀W,Below base w W->∀nm,Calls Tryz.prog 55 #[.agg #[.string all.name,.slice ta all.types.length tc],.string nm] W fun e w'=>∃(fa:Option Addr) (fc:Nat),e=.returned (.tuple #[.agg #[.string (aA5 all nm).name,.string (aA5 all nm).key,.slice fa (aA5 all nm).fields.length fc],.bool (decide (0<=aAR all nm))])∧Below W.heap.size W w'∧TRep w' (·<B) (aA5 all nm) (.agg #[.string (aA5 all nm).name,.string (aA5 all nm).key,.slice fa (aA5 all nm).fields.length fc])):=aA0 fun W hW nm=>aFG all nm W B _ (hA.under (hW.mono hB)) (by have:=hW.size;have:=hr.b.bN;have:=hr.b.lN;omega)
 have HTF:Hid (∀W nm v,TRep W (·<B) (aA5 all nm) v->B<=W.heap.size->Calls Tryz.prog 56 #[v] W fun e w'=>∃(fa:Option Addr) (fc:Nat),e=.returned (.slice fa (aAU (aA5 all nm).fields (aA5 all nm).fields.length).length fc)∧Below W.heap.size W w'∧(aAU (aA5 all nm).fields (aA5 all nm).fields.length).length<=fc∧aBJ w' (fun b=>W.heap.size<=b∧b<w'.heap.size) (aAU (aA5 all nm).fields (aA5 all nm).fields.length) fa):=aA0 fun W nm v hv hb=>aK1 _ W B v hv hb (by have:=aFV all nm;omega)
 have HWA:=aA0 (fun W (hW:Below base w W) i (hi:i<ps.length) nm n=>aK0 ps W B a c all.name ta all.types.length tc i hi nm n (fun m k=>hnl m nm k) (hR.under (hW.mono hB)) (by have:=hW.size;have:=hr.b.bN;have:=hr.b.lN;omega))
 have HTL:=aA0 hT;have HCF:=aA0 hcf;have HBN:Hid (B<=base∧base<=N∧base<=m∧N<w.heap.size∧m<w.heap.size):=aA0 ⟨hB,hr.b.bN,hr.b.bm,hr.b.lN,hr.b.lm⟩;have HR0:=aA0 hr;have HFL:Hid (∀nm,(aAU (aA5 all nm).fields (aA5 all nm).fields.length).length<=1000000):=aA0 fun nm=>by
  have h1:=aFO (aA5 all nm).fields (aA5 all nm).fields.length;have h2:=aFU (aA5 all nm).fields (aA5 all nm).fields.length;have h3:=aFV all nm;have h5:szT (aA5 all nm)=(aA5 all nm).name.size+(aA5 all nm).key.size+((aA5 all nm).fields.length+aBE (aA5 all nm).fields (aA5 all nm).fields.length):=rfl;omega
 have HTU:Hid (∀n,wkTo ps all (n+1)=(wkTo ps all n).turn ps all n):=aA0 fun n=>rfl;clear hR hA hT hcf hr hend hmore hnl hsz ho hp h4 hB;obtain⟨pl,hpl⟩:∃x,x=ps.length:=⟨_,rfl⟩;have HPL:=aA0 hpl;rw[<-hpl] at HR0 HWA ⊢;clear hpl;generalize all.types.length=atl at*;generalize all.name=anm at*;go_enter Tryz.func31,Tryz.ntmps31
 go_wp2_with fail
 go_step3
 go_wp2_with fail
 go_step3
 go_wp2_with fail
 go_loopw [4] (fun i' wr=>∃(n:Nat) (sv:Value),n<=wkN ps all∧i'=.int .i64 n∧Hid (RcI base N m (.slice a pl c) (.string anm) (.slice ta atl tc) (wkTo ps all n).st (wkTo ps all n).wy sv wr)∧Hid (Below base w wr)∧Hid (stop=true->(wkTo ps all n).bad=[])) (fun i' _=>30- (intOf i').toNat)
 case atStart=>exact⟨0,sv,Nat.zero_le _,rfl,HR0,aA0 (Below.refl _ _),aA0 fun _=>rfl⟩
 case round=>
  obtain⟨n,sv,hn,rfl,HRC,HBW,HBD⟩:=hrel;obtain⟨w0,rfl⟩:∃x,x=wr:=⟨wr,rfl⟩;have HOK:=aA0 (HOKW.out n hn);have HKE:Hid (n<(wkTo ps all n).st.length->n<wkN ps all):=aA0 fun h=>by
   rcases Nat.lt_or_eq_of_le hn with h1| h1
   ·exact h1
   ·have h2:=HEN.out;unfold wkE at h2;rw[<-h1] at h2;omega
  have HKX:Hid (¬n<(wkTo ps all n).st.length->n=wkN ps all):=aA0 fun h=>by
   rcases Nat.lt_or_eq_of_le hn with h1| h1
   ·exact absurd (HMO.out n h1) h
   ·exact h1
  have hs20:=HFEW.out n hn;obtain⟨sa,sc,hsv⟩:=aJS HRC.out.b.srow;have m3:=HRC.out.b.cells.2.1;rw[hsv] at m3;by_cases hlt:n<(wkTo ps all n).st.length
  case neg=>
   have hki:¬(n:Int)<((wkTo ps all n).st.length:Int):=by omega
   have hk2:=HKX.out hlt;have HE:Hid (aLF stop lb base N m (.slice a pl c) (.string anm) (.slice ta atl tc) ps all w (.returned (.tuple #[])) w0):=aA0 ⟨rfl,fun _=>⟨HBW.out,sv,by unfold wkE;rw[<-hk2];exact HRC.out⟩,fun h=>absurd (by unfold wkE;rw[<-hk2];exact HBD.out h.1) h.2⟩
   clear hk2 hsv;go_wp2_with fail
   refine bodyPost_end (v:=.tuple #[]) ?res rfl HE.out;case res=>simp[results,Tryz.results31,go_sem]
  have hki:(n:Int)<((wkTo ps all n).st.length:Int):=by omega
  have HNW:=aA0 (HKE.out hlt);have hsr:=HRC.out.b.srow;rw[hsv] at hsr;obtain⟨-,hcap,hSR⟩:=aJY hsr;obtain⟨sb,soff,rfl,-,s0,s1⟩:=hSR.at n hlt;have HSP:Hid ((sta (wkTo ps all n).st n).part<ps.length):=aA0 (HOK.out.part _ (aGH hlt));have HMEM:Hid (sta (wkTo ps all n).st n∈ (wkTo ps all n).st):=aA0 (aGH hlt);have HWIN:=aA0 (HOK.out.in hlt);have HTU1:=aA0 ((HTU.out n).trans (aR0 ps all n (wkTo ps all n)));have HND:=aA0 HOK.out.nd;have HSVL:Hid (∀g,sv.ownBlock=some g->base<=g∧g<w0.heap.size):=aA0 fun g e=>HRC.out.b.srow.lt g e;have HN0:Hid (N<w0.heap.size∧m<w0.heap.size∧base<=w0.heap.size∧B<=w0.heap.size):=aA0 (by have h1:=HRC.out.b.lN;have h2:=HRC.out.b.lm;have h3:=HBN.out;omega)
  clear hSR hsr hsv;generalize hsn:sta (wkTo ps all n).st n=s at*;replace hsn:=aA0 hsn
  generalize hwn:wth (wkTo ps all n).wy n=way at*;replace hwn:=aA0 hwn
  obtain⟨sp,sty⟩:=s;simp only at s0 s1 HSP HTU1;go_upto_region 4 with fail
  have bH:=aA2 w0 (.cells #[.int .i64 sp,.string sty] 72);have nH:=aA3 (w:=w0) (N:=w0.heap.size) #[.int .i64 sp,.string sty] 72 rfl;have zH:w0.heap.size<(w0.alloc (.cells #[.int .i64 sp,.string sty] 72)).heap.size:=by simp
  clear s0 s1 m3 hcap;generalize w0.alloc (.cells #[.int .i64 sp,.string sty] 72)=Y0 at*;have HY:Hid (∀W,Below Y0.heap.size Y0 W->(W.cell? ⟨w0.heap.size,0,none⟩=some (.int .i64 sp)∧W.cell? ⟨w0.heap.size,1,none⟩=some (.string sty))∧RcI base N m (.slice a pl c) (.string anm) (.slice ta atl tc) (wkTo ps all n).st (wkTo ps all n).wy sv W∧Below base w W∧Below w0.heap.size w0 W):=aA0 fun W hW=>by
   have h:=(hW.block w0.heap.size zH).trans nH;have hb:=bH.trans (hW.mono bH.size);exact⟨⟨(aA1 h 0 (by simp)).1,(aA1 h 1 (by simp)).1⟩,HRC.out.keep hb,HBW.out.trans (hb.mono HN0.out.2.2.1),hb⟩
  have HNH:Hid (w0.heap.size<Y0.heap.size∧Y0.heap[w0.heap.size]?=some (.cells #[.int .i64 sp,.string sty] 72 (0,0))):=aA0 ⟨zH,nH⟩;have HS4:Hid (∀W,Below Y0.heap.size Y0 W->W.cell? ⟨N,1,none⟩=some (.string anm)∧W.cell? ⟨N,2,none⟩=some (.slice ta atl tc)∧W.cell? ⟨w0.heap.size,1,none⟩=some (.string sty)):=aA0 fun W hW=>⟨(HY.out W hW).2.1.b.cells.1.2.1,(HY.out W hW).2.1.b.cells.1.2.2,(HY.out W hW).1.2⟩;clear bH nH zH HRC;have HFT1:=aA0 (fun W hW=>HFT.out W hW sty);have HTF1:=aA0 (fun W v=>HTF.out W sty v);have hFL1:=HFL.out sty;have HSH:=aA0 (aPJ (aA5 all sty).fields (aA5 all sty).fields.length);generalize aAU (aA5 all sty).fields (aA5 all sty).fields.length=L at*;generalize aA5 all sty=t at*;obtain⟨tnm,tky,tfs⟩:=t;simp only at HFT1;go_cut [6] (fun r wx=>∃(nt:Nat) (fa:Option Addr) (fc:Nat),r=.pointer (some ⟨nt,0,none⟩)∧Hid (wx.heap[nt]?=some (.cells #[.string tnm,.string tky,.slice fa tfs.length fc] 96 (0,0))∧TRep wx (·<B) ⟨tnm,tky,tfs⟩ (.agg #[.string tnm,.string tky,.slice fa tfs.length fc]))∧Below Y0.heap.size Y0 wx)
  case first=>
   refine wp_region_held_drew (S:=(fun W=>W.cell? ⟨N,1,none⟩=some (.string anm)∧W.cell? ⟨N,2,none⟩=some (.slice ta atl tc)∧W.cell? ⟨w0.heap.size,1,none⟩=some (.string sty))) (by kernel_rfl) (HS4.out _ (Below.refl _ _).drew) (fun hHeld=>?_)
   have bX:Below Y0.heap.size Y0 Y0.drew:=(Below.refl _ _).drew;generalize Y0.drew=wD at*;refine tkH 0 hHeld ?_;refine tkH 1 hHeld ?_;refine tkH 2 hHeld ?_;refine tkH 3 hHeld ?_;refine tkH 4 hHeld ?_;refine tkH 5 hHeld ?_;refine tkH 6 hHeld ?_;refine rdyH [7,11] ?_;refine rcH (fun K hK=>?_) ?_
   ·go_simp
    refine(HFT1.out wD (HY.out wD bX).2.2.1).mono ?_;rintro e wK ⟨fa,fc,rfl,bK,hTR⟩;have HTR:=aA0 hTR;clear hTR;have bX:=bX.trans (bK.mono bX.size);refine hK.out _ _ (HS4.out _ bX) (fun hHeld=>?_);clear hK K;try simp only[Act.put,sIA,sI0,sIS]
    refine tkH 8 hHeld ?_;refine tkH 9 hHeld ?_;refine tkH 10 hHeld ?_;refine rdyH [11] ?_;refine rcH (fun K hK=>?_) AllReadyH.nil;go_simp
    have bE:=aA2 wK (.cells #[.string ⟨#[]⟩,.string ⟨#[]⟩,.slice none 0 0] 96);have nE:=aA3 (w:=wK) #[.string ⟨#[]⟩,.string ⟨#[]⟩,.slice none 0 0] 96 rfl;have qE:Y0.heap.size<=wK.heap.size:=bX.size;have zE:wK.heap.size<(wK.alloc (.cells #[.string ⟨#[]⟩,.string ⟨#[]⟩,.slice none 0 0] 96)).heap.size:=by simp
    have bX0:=bX;have bX:=bX.trans (bE.mono bX.size);have HTR:=aA0 (HTR.out.under (bE.mono (Nat.le_trans HN0.out.2.2.2 (HY.out wK bX0).2.2.2.size)));refine hK.out _ _ (HS4.out _ bX) (fun hHeld=>?_);clear hK K;try simp only[Act.put,sIA,sI0,sIS]
    generalize wK.alloc (.cells #[.string ⟨#[]⟩,.string ⟨#[]⟩,.slice none 0 0] 96)=wE at*;refine rdyH [12] ?_;refine rcH (fun K hK=>?_) AllReadyH.nil;obtain⟨y0,g0'⟩:=aA1 nE 0 (by simp)
    obtain⟨y1,g1'⟩:=aA1 nE 1 (by simp)
    obtain⟨y2,g2'⟩:=aA1 nE 2 (by simp)
    go_simp
    refine hK.out _ _ (HS4.out _ (aB7 bX qE _ _ _)) (fun hHeld=>?_);clear hK K;try simp only[Act.put,sIA,sI0,sIS]
    refine tkH 13 hHeld ?_;refine wpAnyH_done (by kernel_rfl) ?_ _
    go_wp2_with fail
    go_meet
    case rel=>
     refine⟨_,fa,fc,rfl,aA0 ⟨aGZ nE _ _ _,HTR.out.mono fun b hb=>aD0 ?_ _ _ _ _⟩,aB7 bX qE _ _ _⟩;have hb:b<B:=hb;have h1:=HN0.out;have h2:=HNH.out.1;omega
   refine rcH (fun K hK=>?_) AllReadyH.nil;go_simp
   have bE:=aA2 wD (.cells #[.string ⟨#[]⟩,.string ⟨#[]⟩,.slice none 0 0] 96);have nE:=aA3 (w:=wD) #[.string ⟨#[]⟩,.string ⟨#[]⟩,.slice none 0 0] 96 rfl;have qE:Y0.heap.size<=wD.heap.size:=bX.size;have zE:wD.heap.size<(wD.alloc (.cells #[.string ⟨#[]⟩,.string ⟨#[]⟩,.slice none 0 0] 96)).heap.size:=by simp
   have bX0:=bX;have bX:=bX.trans (bE.mono bX.size);refine hK.out _ _ (HS4.out _ bX) (fun hHeld=>?_);clear hK K;try simp only[Act.put,sIA,sI0,sIS]
   generalize wD.alloc (.cells #[.string ⟨#[]⟩,.string ⟨#[]⟩,.slice none 0 0] 96)=wE at*;refine rdyH [7] ?_;refine rcH (fun K hK=>?_) AllReadyH.nil;go_simp
   refine(HFT1.out wE (HY.out wE bX).2.2.1).mono ?_;rintro e wK ⟨fa,fc,rfl,bK,hTR⟩;have HTR:=aA0 hTR;clear hTR;have bX:=bX.trans (bK.mono bX.size);have nE:=(bK.block _ zE).trans nE;have zE:=Nat.lt_of_lt_of_le zE bK.size;refine hK.out _ _ (HS4.out _ bX) (fun hHeld=>?_);clear hK K;try simp only[Act.put,sIA,sI0,sIS]
   refine tkH 8 hHeld ?_;refine tkH 9 hHeld ?_;refine tkH 10 hHeld ?_;refine rdyH [12] ?_;refine rcH (fun K hK=>?_) AllReadyH.nil;obtain⟨y0,g0'⟩:=aA1 nE 0 (by simp)
   obtain⟨y1,g1'⟩:=aA1 nE 1 (by simp)
   obtain⟨y2,g2'⟩:=aA1 nE 2 (by simp)
   go_simp
   refine hK.out _ _ (HS4.out _ (aB7 bX qE _ _ _)) (fun hHeld=>?_);clear hK K;try simp only[Act.put,sIA,sI0,sIS]
   refine tkH 13 hHeld ?_;refine wpAnyH_done (by kernel_rfl) ?_ _
   go_wp2_with fail
   go_meet
   case rel=>
    refine⟨_,fa,fc,rfl,aA0 ⟨aGZ nE _ _ _,HTR.out.mono fun b hb=>aD0 ?_ _ _ _ _⟩,aB7 bX qE _ _ _⟩;have hb:b<B:=hb;have h1:=HN0.out;have h2:=HNH.out.1;omega
  case rest=>
  obtain⟨nt,fa,fc,rfl,HT6,bx⟩:=hcut;obtain⟨wx,rfl⟩:∃x,x=wc:=⟨wc,rfl⟩;have t0:=(aA1 HT6.out.1 0 (by simp)).1
  have t1:=(aA1 HT6.out.1 1 (by simp)).1
  have t2:=(aA1 HT6.out.1 2 (by simp)).1
  simp only[List.getElem_toArray,List.getElem_cons_zero,List.getElem_cons_succ] at t0 t1 t2;have HT1:=aA0 (HTF1.out wx _ HT6.out.2 (by have h1:=HN0.out;have h2:=(HY.out wx bx).2.2.2.size;omega))
  go_wp2_with (go_at_call 56;refine HT1.out.mono ?_;rintro e X ⟨la,lc,rfl,bXx,hlc,hFs⟩)
  have bY0X:=bx.trans (bXx.mono bx.size);have hwx:=(HY.out wx bx).2.2.2.size;have HFR0:Hid (FrmP base w0.heap.size w X N m sv X):=aA0 (by
   have h0:=HY.out X bY0X;have h1:=HN0.out;have h3:=HBN.out;exact⟨h0.2.2.1,Nat.le_refl _,fun _ _ _=>rfl,fun g e=>⟨(HSVL.out g e).1,.inl (HSVL.out g e).2⟩,h1.1,h1.2.1,h3.2.1,h3.2.2.1,h0.2.2.2.size⟩)
  have HRX:=aA0 (HY.out X bY0X).2.1;have HLST:Hid (∀W,(∀b,w0.heap.size<=b->b<X.heap.size->W.heap[b]?=X.heap[b]?)->aBJ W (·<X.heap.size) L la):=aA0 fun W hW=>(hFs.mono fun b hb=>hW b (by have:=hb.1;omega) hb.2).sub fun b hb=>hb.2
  have HHB:Hid (∀W:World,(∀b,w0.heap.size<=b->b<X.heap.size->W.heap[b]?=X.heap[b]?)->W.cell? ⟨w0.heap.size,0,none⟩=some (.int .i64 sp)∧W.cell? ⟨w0.heap.size,1,none⟩=some (.string sty)):=aA0 fun W hW=>by
   have h0:=HY.out X bY0X;have hb:=hW w0.heap.size (Nat.le_refl _) (by have:=h0.2.2.2.size;have h5:=HNH.out.1;have:=bY0X.size;omega)
   exact⟨(World.cell?_of_block (a:=⟨w0.heap.size,0,none⟩) hb).trans h0.1.1,(World.cell?_of_block (a:=⟨w0.heap.size,1,none⟩) hb).trans h0.1.2⟩
  have HK:Hid (∀j,(wkTo ps all n).flds ps ⟨sp,sty⟩ way L (j+1)=((wkTo ps all n).flds ps ⟨sp,sty⟩ way L j).fld ps ⟨sp,sty⟩ way (fth L j)):=aA0 fun j=>rfl;have HLOS:=aA0 (fun j (hj:j<L.length) h=>aT9 (s:=⟨sp,sty⟩) (way:=way) HNW.out HTU1.out hj h);have HPRE:=aA0 (fun j=>Wk.flds_mono ps ⟨sp,sty⟩ way L (wkTo ps all n) j);have HPRW:=aA0 (fun j=>Wk.flds_wy ps ⟨sp,sty⟩ way L (wkTo ps all n) j);have HK0:Hid ((wkTo ps all n).flds ps ⟨sp,sty⟩ way L 0=wkTo ps all n):=aA0 rfl;have HNN:=aA0 (HOK.out.len);have HLF:Hid (∀j,j<=L.length->((wkTo ps all n).flds ps ⟨sp,sty⟩ way L j).st.length<=20∧((wkTo ps all n).flds ps ⟨sp,sty⟩ way L j).st.Nodup):=aA0 fun j hj=>by
   have h1:=(aUP (Wk.flds_monoJ ps ⟨sp,sty⟩ way L (wkTo ps all n) hj));rw[<-HTU1.out] at h1;have h2:=HFEW.out (n+1) HNW.out;exact⟨by have:=h1.length_le;omega,(HOKW.out (n+1) HNW.out).nd.sublist h1.sublist⟩
  clear HFT1 HTF1 HY HS4 bXx hFs hwx bY0X HT6 HT1 bx t0 t1 t2 HFL HTU HTF HFT;generalize hKF:(fun j=>(wkTo ps all n).flds ps ⟨sp,sty⟩ way L j)=KF at*;have HKF:Hid (∀j,(wkTo ps all n).flds ps ⟨sp,sty⟩ way L j=KF j):=aA0 fun j=>by rw[<-hKF]
  clear hKF;simp only[HKF.out] at HK HLOS HPRE HPRW HK0 HLF;go_loopw [43] (fun i' wr=>∃(j:Nat) (sv:Value),j<=L.length∧i'=.int .i64 j∧Hid (RcI base N m (.slice a pl c) (.string anm) (.slice ta atl tc) (KF j).st (KF j).wy sv wr)∧Hid (FrmP base w0.heap.size w X N m sv wr)∧Hid (stop=true->(KF j).bad=[])) (fun i' _=>L.length- (intOf i').toNat)
  case atStart=>exact⟨0,sv,Nat.zero_le _,rfl,by rw[HK0.out];exact HRX,HFR0,by rw[HK0.out];exact HBD⟩
  case round=>
   obtain⟨j,sv,hj,rfl,HRC,HFM,HBJ⟩:=hrel;obtain⟨w1,rfl⟩:∃x,x=wr:=⟨wr,rfl⟩;by_cases hjl:j<L.length
   case neg=>
    have e:j=L.length:=by omega
    have hji:¬(j:Int)<(L.length:Int):=by omega
    have HE:Hid (wkTo ps all (n+1)=KF j):=aA0 (by rw[HTU1.out,HKF.out,e])
    have hn1:n+1<=wkN ps all:=HNW.out;have HF2:=aA0 HFM.out.old;clear e;go_wp2_with fail
    go_roundw
    case measure=>simp[intOf];omega
    case rel=>exact⟨n+1,sv,by omega,by go_num,by rw[HE.out];exact HRC,HF2,by rw[HE.out];exact HBJ⟩
   have hji:(j:Int)<(L.length:Int):=by omega
   obtain⟨fb,foff,fna,fnc,rfl,hfr,hfc⟩:=(HLST.out w1 HFM.out.blk).at (B:=X.heap.size) HFM.out.size j hjl;obtain⟨f0,f1,f2,f3,f4,f5,f6,f7⟩:=hfc w1 (Below.refl _ _);have HFSZ:Hid ((fth L j).name.size<=maxLen):=aA0 (by obtain⟨_,_,_,_,_,h,_⟩:=hfr;exact h)
   have HSHJ:=aA0 (HSH.out j hjl);have HKJ:=aA0 (HK.out j);have HLOJ:=aA0 (HLOS.out j hjl);have HLJ:=aA0 (HLF.out j hj);have HIST:Hid ((⟨sp,sty⟩:Sta)∈ (KF j).st∧∀i,i<(KF j).st.length->sta (KF j).st i=⟨sp,sty⟩->wth (KF j).wy i=way):=aA0 (by
    have h1:=aPU (i:=n) (HPRE.out j) hlt;rw[hsn.out] at h1;have hlen:=(HPRE.out j).length_le;refine⟨by rw[<-h1];exact aGH (by omega),fun i hi e=>?_⟩
    have e2:i=n:=aT5 HLJ.out.2 hi (by omega) (by rw[e,h1])
    rw[e2,aKO (HPRW.out j) (by have:=HNN.out;omega),hwn.out])
   clear hfr hfc;generalize fth L j=f at*;obtain⟨fn,fo,fl,fm,ff,fh,fsh,fnd⟩:=f;simp only at f0 f1 f2 f3 f4 f5 f6 f7 HFSZ HSHJ;generalize hK1:KF (j+1)=K1 at*;have HK1:=aA0 hK1;clear hK1;generalize hK2:KF j=Kk at*;clear hK2;obtain⟨stt,wyy,bdd⟩:=Kk;simp only at HRC HBJ HIST HLJ;have hs2:=HLJ.out.1;go_upto_region 8 with fail
   have bF:=aA2 w1 (.cells #[.string fn,.string fo,.bool fl,.bool fm,.bool ff,.bool fh,.bool fsh,.slice fna fnd.length fnc] 80);have nF:=aA3 (w:=w1) (N:=w1.heap.size) #[.string fn,.string fo,.bool fl,.bool fm,.bool ff,.bool fh,.bool fsh,.slice fna fnd.length fnc] 80 rfl;have zF:w1.heap.size<(w1.alloc (.cells #[.string fn,.string fo,.bool fl,.bool fm,.bool ff,.bool fh,.bool fsh,.slice fna fnd.length fnc] 80)).heap.size:=by simp
   clear f0 f1 f2 f3 f4 f5 f6 f7;generalize w1.alloc (.cells #[.string fn,.string fo,.bool fl,.bool fm,.bool ff,.bool fh,.bool fsh,.slice fna fnd.length fnc] 80)=Z at*;have HZ:Hid (∀W,Below Z.heap.size Z W->RcI base N m (.slice a pl c) (.string anm) (.slice ta atl tc) stt wyy sv W∧FrmP base w0.heap.size w X N m sv W∧(W.cell? ⟨w1.heap.size,0,none⟩=some (.string fn)∧W.cell? ⟨w1.heap.size,1,none⟩=some (.string fo))∧(W.cell? ⟨w0.heap.size,0,none⟩=some (.int .i64 sp)∧W.cell? ⟨w0.heap.size,1,none⟩=some (.string sty))):=aA0 fun W hW=>by
    have h:=(hW.block w1.heap.size zF).trans nF;have hb:=bF.trans (hW.mono bF.size);have hf:=HFM.out.keep hb;exact⟨HRC.out.keep hb,hf,⟨(aA1 h 0 (by simp)).1,(aA1 h 1 (by simp)).1⟩,HHB.out W hf.blk⟩
   have HRL:Hid (∀g,sv.ownBlock=some g->g<Z.heap.size):=aA0 fun g e=>by have:=(HRC.out.b.srow.lt g e).2;omega
   have HNM:Hid (N<Z.heap.size∧m<Z.heap.size∧base<=Z.heap.size):=aA0 (by have h1:=HRC.out.b.lN;have h2:=HRC.out.b.lm;have h3:=HBN.out;omega)
   have HWN:Hid (way.length<=30∧∀t∈ way,t.size<=1048576):=aA0 ⟨by have h1:=HWIN.out.wlen;have h2:=hs20;omega,HWIN.out.wsz⟩
   clear bF nF zF HRC HFM;have bD0:Below Z.heap.size Z Z.drew:=(Below.refl _ _).drew;obtain⟨la0,lc0,lw,⟨li,hli,hl1,hl2⟩,hLS,hlk⟩:=((HZ.out _ bD0).1.look ⟨sp,sty⟩).1 HIST.out.1;have hlw:lw=way:=by rw[<-hl2];exact HIST.out.2 li hli hl1
   rw[hlw] at hLS hlk;replace hlk:=hlk false
   simp only[Bool.false_eq_true,if_false] at hlk;have HLS:=aA0 hLS;have HLK:Hid (∀W,Below Z.heap.size Z W->∀la1 lc1,(∀cm,(Instr.lookup 64 (.map (some m)) (.agg #[.int .i64 sp,.string sty]) cm).run Tryz.prog W=.ok (if cm then .tuple #[.slice la1 way.length lc1,.bool true] else .slice la1 way.length lc1) W)->True):=aA0 fun _ _ _ _ _=>trivial
   have HLOOK:Hid (∀W,Below Z.heap.size Z W->∃la1 lc1,Strs W (·<W.heap.size) way la1∧(Instr.lookup 64 (.map (some m)) (.agg #[.int .i64 sp,.string sty]) false).run Tryz.prog W=.ok (.slice la1 way.length lc1) W):=aA0 fun W hW=>by
    obtain⟨la1,lc1,lw1,⟨li,hli,hl1,hl2⟩,hLS,hlk⟩:=((HZ.out W hW).1.look ⟨sp,sty⟩).1 HIST.out.1;have hlw:lw1=way:=by rw[<-hl2];exact HIST.out.2 li hli hl1
    rw[hlw] at hLS hlk;exact⟨la1,lc1,hLS.sub fun b hb=>hb.2.1,hlk false⟩
   have HS8:Hid (∀W,Below Z.heap.size Z W->W.cell? ⟨N,4,none⟩=some (.map (some m))∧(W.cell? ⟨w0.heap.size,0,none⟩=some (.int .i64 sp)∧W.cell? ⟨w0.heap.size,1,none⟩=some (.string sty))∧W.cell? ⟨w1.heap.size,0,none⟩=some (.string fn)):=aA0 fun W hW=>⟨(HZ.out W hW).1.b.cells.2.2,(HZ.out W hW).2.2.2,(HZ.out W hW).2.2.1.1⟩;clear hLS hlk HLS HLK hl1 hl2 hli hlw;have hwn30:=HWN.out.1;obtain⟨i9,hi9,hx0,hx1,hx2⟩:=info_parts aRD;go_cut [10] (fun r wx=>∃g cap,r=.slice (some ⟨g,0,none⟩) (way.length+1) cap∧Hid (wx.ownsRow Z.heap.size 9 1 (.slice (some ⟨g,0,none⟩) (way++[fn]).length cap) (way++[fn]).length ((way++[fn]).map Value.string))∧Below Z.heap.size Z wx)
   case first=>
    refine wp_region_held_drew (S:=(fun W=>W.cell? ⟨N,4,none⟩=some (.map (some m))∧(W.cell? ⟨w0.heap.size,0,none⟩=some (.int .i64 sp)∧W.cell? ⟨w0.heap.size,1,none⟩=some (.string sty))∧W.cell? ⟨w1.heap.size,0,none⟩=some (.string fn))) (by kernel_rfl) (HS8.out _ (Below.refl _ _).drew) (fun hHeld=>?_)
    have bX:Below Z.heap.size Z Z.drew:=(Below.refl _ _).drew;generalize Z.drew=wD at*;refine tkH 0 hHeld ?_;refine tkH 1 hHeld ?_;refine tkH 2 hHeld ?_;refine tkH 3 hHeld ?_;refine tkH 4 hHeld ?_;refine tkH 7 hHeld ?_;refine tkH 8 hHeld ?_;refine rdyH [5,9] ?_;refine rcH (fun K hK=>?_) ?_
    ·obtain⟨la1,lc1,hLS,hlk⟩:=HLOOK.out wD bX;go_simp
     clear hlk;have HLS:=aA0 hLS;clear hLS;refine hK.out _ _ (HS8.out _ bX) (fun hHeld=>?_);clear hK K;try simp only[Act.put,sIA,sI0,sIS]
     refine rdyH [6,9] ?_;refine rcH (fun K hK=>?_) ?_
     ·go_simp
      refine(aEV way la1 lc1 wD _ HLS.out (by omega)).mono ?_
      rintro e wC ⟨vC,rfl,oC,bC⟩;have zC:Z.heap.size<=wD.heap.size:=bX.size;have oC:=aFN oC zC;have bX:=bX.trans (bC.mono bX.size);try have HLS:=aA0 ((HLS.out.mono fun b hb=>bD.block b hb).sub fun b hb=>Nat.lt_of_lt_of_le hb bD.size)
      refine hK.out _ _ (HS8.out _ bX) (fun hHeld=>?_);clear hK K;try simp only[Act.put,sIA,sI0,sIS]
      clear bC zC;refine rdyH [9] ?_;refine rcH (fun K hK=>?_) AllReadyH.nil;go_simp
      have bN:=aA2 wC (.cells #[.string fn] 9);obtain⟨gN,hgN⟩:∃g,g=wC.heap.size:=⟨_,rfl⟩;have nN:=aA3 (w:=wC) (N:=gN) #[.string fn] 9 hgN.symm;have ltN:gN<(wC.alloc (.cells #[.string fn] 9)).heap.size:=by rw[hgN];simp
      have bX:=bX.trans (bN.mono bX.size);try have HLS:=aA0 ((HLS.out.mono fun b hb=>bN.block b hb).sub fun b hb=>Nat.lt_of_lt_of_le hb bN.size)
      try have oC:=aAE oC bN
      refine hK.out _ _ (HS8.out _ bX) (fun hHeld=>?_);clear hK K;try simp only[Act.put,sIA,sI0,sIS]
      rw[<-hgN];generalize wC.alloc (.cells #[.string fn] 9)=wN at*;clear hgN bN;refine rdyH [10] ?_;refine rcH (fun K hK=>?_) AllReadyH.nil;refine step_append_lies _ rfl (.tmp 53) (.tmp 56) 33 rfl Z.heap.size 9 i9 (.string ByteArray.empty) 1 16 Tryz.underlying33 hi9 hx0 hx1 hx2 rfl (by decide) vC way.length (way.map Value.string) rfl oC ⟨gN,0,none⟩ 1 1 [.string fn] rfl rfl (World.news_of_block nN) (by intro u hu;simp at hu;subst hu;rfl) (by omega) (by unfold maxLen;omega) (by omega) bX.size _ rfl ?_
      intro g2 cap2 wP o2 hgP horP hltP;have bX:=bX.grown hgP bX.size (fun b hb=>(oC.lt b hb).1);have HOW:=aA0 o2;clear hgP horP o2 oC hltP;try have HLS:=aA0 ((HLS.out.mono fun b hb=>bP.block b hb).sub fun b hb=>Nat.lt_of_lt_of_le hb bP.size)
      try have oC:=aAE oC bP
      first| have nN:=(bC.block gN ltN).trans nN| skip
      try have ltN:=Nat.lt_of_lt_of_le ltN bC.size
      refine hK.out _ _ (HS8.out _ bX) (fun hHeld=>?_);clear hK K;try simp only[Act.put,sIA,sI0,sIS]
      refine tkH 11 hHeld ?_;refine wpAnyH_done (by kernel_rfl) ?_ _
      go_wp2_with fail
      go_meet
      case rel=>exact⟨g2,cap2,rfl,aA0 (by rw[List.length_append,List.length_singleton,List.map_append];exact HOW.out),bX⟩
     refine rcH (fun K hK=>?_) AllReadyH.nil;go_simp
     have bN:=aA2 wD (.cells #[.string fn] 9);obtain⟨gN,hgN⟩:∃g,g=wD.heap.size:=⟨_,rfl⟩;have nN:=aA3 (w:=wD) (N:=gN) #[.string fn] 9 hgN.symm;have ltN:gN<(wD.alloc (.cells #[.string fn] 9)).heap.size:=by rw[hgN];simp
     have bX:=bX.trans (bN.mono bX.size);try have HLS:=aA0 ((HLS.out.mono fun b hb=>bN.block b hb).sub fun b hb=>Nat.lt_of_lt_of_le hb bN.size)
     refine hK.out _ _ (HS8.out _ bX) (fun hHeld=>?_);clear hK K;try simp only[Act.put,sIA,sI0,sIS]
     rw[<-hgN];generalize wD.alloc (.cells #[.string fn] 9)=wN at*;clear hgN bN;refine rdyH [6] ?_;refine rcH (fun K hK=>?_) AllReadyH.nil;go_simp
     refine(aEV way la1 lc1 wN _ HLS.out (by omega)).mono ?_
     rintro e wC ⟨vC,rfl,oC,bC⟩;have zC:Z.heap.size<=wN.heap.size:=bX.size;have oC:=aFN oC zC;have bX:=bX.trans (bC.mono bX.size);try have HLS:=aA0 ((HLS.out.mono fun b hb=>bD.block b hb).sub fun b hb=>Nat.lt_of_lt_of_le hb bD.size)
     first| have nN:=(bC.block gN ltN).trans nN| skip
     try have ltN:=Nat.lt_of_lt_of_le ltN bC.size
     refine hK.out _ _ (HS8.out _ bX) (fun hHeld=>?_);clear hK K;try simp only[Act.put,sIA,sI0,sIS]
     clear bC zC;refine rdyH [10] ?_;refine rcH (fun K hK=>?_) AllReadyH.nil;refine step_append_lies _ rfl (.tmp 53) (.tmp 56) 33 rfl Z.heap.size 9 i9 (.string ByteArray.empty) 1 16 Tryz.underlying33 hi9 hx0 hx1 hx2 rfl (by decide) vC way.length (way.map Value.string) rfl oC ⟨gN,0,none⟩ 1 1 [.string fn] rfl rfl (World.news_of_block nN) (by intro u hu;simp at hu;subst hu;rfl) (by omega) (by unfold maxLen;omega) (by omega) bX.size _ rfl ?_
     intro g2 cap2 wP o2 hgP horP hltP;have bX:=bX.grown hgP bX.size (fun b hb=>(oC.lt b hb).1);have HOW:=aA0 o2;clear hgP horP o2 oC hltP;try have HLS:=aA0 ((HLS.out.mono fun b hb=>bP.block b hb).sub fun b hb=>Nat.lt_of_lt_of_le hb bP.size)
     first| have nN:=(bC.block gN ltN).trans nN| skip
     try have ltN:=Nat.lt_of_lt_of_le ltN bC.size
     try have oC:=aAE oC bP
     refine hK.out _ _ (HS8.out _ bX) (fun hHeld=>?_);clear hK K;try simp only[Act.put,sIA,sI0,sIS]
     refine tkH 11 hHeld ?_;refine wpAnyH_done (by kernel_rfl) ?_ _
     go_wp2_with fail
     go_meet
     case rel=>exact⟨g2,cap2,rfl,aA0 (by rw[List.length_append,List.length_singleton,List.map_append];exact HOW.out),bX⟩
    refine rcH (fun K hK=>?_) AllReadyH.nil;go_simp
    have bN:=aA2 wD (.cells #[.string fn] 9);obtain⟨gN,hgN⟩:∃g,g=wD.heap.size:=⟨_,rfl⟩;have nN:=aA3 (w:=wD) (N:=gN) #[.string fn] 9 hgN.symm;have ltN:gN<(wD.alloc (.cells #[.string fn] 9)).heap.size:=by rw[hgN];simp
    have bX:=bX.trans (bN.mono bX.size);refine hK.out _ _ (HS8.out _ bX) (fun hHeld=>?_);clear hK K;try simp only[Act.put,sIA,sI0,sIS]
    rw[<-hgN];generalize wD.alloc (.cells #[.string fn] 9)=wN at*;clear hgN bN;refine rdyH [5] ?_;refine rcH (fun K hK=>?_) AllReadyH.nil;obtain⟨la1,lc1,hLS,hlk⟩:=HLOOK.out wN bX;go_simp
    clear hlk;have HLS:=aA0 hLS;clear hLS;refine hK.out _ _ (HS8.out _ bX) (fun hHeld=>?_);clear hK K;try simp only[Act.put,sIA,sI0,sIS]
    refine rdyH [6] ?_;refine rcH (fun K hK=>?_) AllReadyH.nil;go_simp
    refine(aEV way la1 lc1 wN _ HLS.out (by omega)).mono ?_
    rintro e wC ⟨vC,rfl,oC,bC⟩;have zC:Z.heap.size<=wN.heap.size:=bX.size;have oC:=aFN oC zC;have bX:=bX.trans (bC.mono bX.size);first| have nN:=(bC.block gN ltN).trans nN| skip
    try have ltN:=Nat.lt_of_lt_of_le ltN bC.size
    try have HLS:=aA0 ((HLS.out.mono fun b hb=>bD.block b hb).sub fun b hb=>Nat.lt_of_lt_of_le hb bD.size)
    refine hK.out _ _ (HS8.out _ bX) (fun hHeld=>?_);clear hK K;try simp only[Act.put,sIA,sI0,sIS]
    clear bC zC;refine rdyH [10] ?_;refine rcH (fun K hK=>?_) AllReadyH.nil;refine step_append_lies _ rfl (.tmp 53) (.tmp 56) 33 rfl Z.heap.size 9 i9 (.string ByteArray.empty) 1 16 Tryz.underlying33 hi9 hx0 hx1 hx2 rfl (by decide) vC way.length (way.map Value.string) rfl oC ⟨gN,0,none⟩ 1 1 [.string fn] rfl rfl (World.news_of_block nN) (by intro u hu;simp at hu;subst hu;rfl) (by omega) (by unfold maxLen;omega) (by omega) bX.size _ rfl ?_
    intro g2 cap2 wP o2 hgP horP hltP;have bX:=bX.grown hgP bX.size (fun b hb=>(oC.lt b hb).1);have HOW:=aA0 o2;clear hgP horP o2 oC hltP;first| have nN:=(bC.block gN ltN).trans nN| skip
    try have ltN:=Nat.lt_of_lt_of_le ltN bC.size
    try have HLS:=aA0 ((HLS.out.mono fun b hb=>bP.block b hb).sub fun b hb=>Nat.lt_of_lt_of_le hb bP.size)
    try have oC:=aAE oC bP
    refine hK.out _ _ (HS8.out _ bX) (fun hHeld=>?_);clear hK K;try simp only[Act.put,sIA,sI0,sIS]
    refine tkH 11 hHeld ?_;refine wpAnyH_done (by kernel_rfl) ?_ _
    go_wp2_with fail
    go_meet
    case rel=>exact⟨g2,cap2,rfl,aA0 (by rw[List.length_append,List.length_singleton,List.map_append];exact HOW.out),bX⟩
   case rest=>
   obtain⟨gy,capy,rfl,HWO,by0⟩:=hcut;obtain⟨wy0,rfl⟩:∃x,x=wc:=⟨wc,rfl⟩;clear HS8 HLOOK hi9 hx0 hx1 hx2 bD0;have HS9:Hid (∀W,Below wy0.heap.size wy0 W->(W.cell? ⟨N,0,none⟩=some (.slice a pl c)∧W.cell? ⟨N,1,none⟩=some (.string anm)∧W.cell? ⟨N,2,none⟩=some (.slice ta atl tc))∧(W.cell? ⟨w0.heap.size,0,none⟩=some (.int .i64 sp)∧W.cell? ⟨w0.heap.size,1,none⟩=some (.string sty))∧W.cell? ⟨w1.heap.size,0,none⟩=some (.string fn)):=aA0 fun W hW=>by
    have h:=HZ.out W (by0.trans (hW.mono by0.size));exact⟨h.1.b.cells.1,h.2.2.2,h.2.2.1.1⟩
   have HWA1:=aA0 (fun W hW=>HWA.out W hW sp (by rw[HPL.out];exact HSP.out) sty fn)
   have HNV:Hid (aCT ps sp sty fn=true->aK3 ps sp sty fn=(aEO ps sp sty fn:Nat)):=aA0 fun h=>if_pos h;go_upto_region 9 with fail
   go_cut [11,12] (fun r o wx=>r=.int .i64 (aK3 ps sp sty fn)∧o=.bool (aCT ps sp sty fn)∧Below wy0.heap.size wy0 wx)
   case first=>
    refine wp_region_held_drew (S:=(fun W=>(W.cell? ⟨N,0,none⟩=some (.slice a pl c)∧W.cell? ⟨N,1,none⟩=some (.string anm)∧W.cell? ⟨N,2,none⟩=some (.slice ta atl tc))∧(W.cell? ⟨w0.heap.size,0,none⟩=some (.int .i64 sp)∧W.cell? ⟨w0.heap.size,1,none⟩=some (.string sty))∧W.cell? ⟨w1.heap.size,0,none⟩=some (.string fn))) (by kernel_rfl) (HS9.out _ (Below.refl _ _).drew) (fun hHeld=>?_)
    have bX:Below wy0.heap.size wy0 wy0.drew:=(Below.refl _ _).drew;generalize wy0.drew=wD at*;refine tkH 0 hHeld ?_;refine tkH 1 hHeld ?_;refine tkH 2 hHeld ?_;refine tkH 3 hHeld ?_;refine tkH 4 hHeld ?_;refine tkH 5 hHeld ?_;refine tkH 6 hHeld ?_;refine rdyH [7] ?_;refine rcH (fun K hK=>?_) AllReadyH.nil;go_simp
    refine(HWA1.out wD (HZ.out wD (by0.trans (bX.mono by0.size))).2.1.old).mono ?_;rintro e wK ⟨rfl,bK⟩;have bX:=bX.trans (bK.mono bX.size);refine hK.out _ _ (HS9.out _ bX) (fun hHeld=>?_);clear hK K;try simp only[Act.put,sIA,sI0,sIS]
    refine tkH 8 hHeld ?_;refine tkH 9 hHeld ?_;refine tkH 10 hHeld ?_;refine tkH 11 hHeld ?_;refine tkH 12 hHeld ?_;refine wpAnyH_done (by kernel_rfl) ?_ _
    go_wp2_with fail
    go_meet
    case rel=>exact⟨rfl,rfl,bX⟩
   case rest=>
   obtain⟨rfl,rfl,b9⟩:=hcut;obtain⟨w9,rfl⟩:∃x,x=wc:=⟨wc,rfl⟩;clear HS9 HWA1;have bZ9:=by0.trans (b9.mono by0.size);have HOW9:=aA0 (aAE HWO.out b9);have hf9:=(HZ.out w9 bZ9).2.1.old;cases hnb:aCT ps sp sty fn
   ·have HTC:=aA0 (HTL.out w9 (some ⟨gy,0,none⟩) (way.length+1) capy false hf9);have HFE2:Hid (K1=⟨stt,wyy,if bdd.length=0 then way++[fn] else bdd⟩):=aA0 (by
     rw[HKJ.out];show(if fh=true then _ else if aCT ps sp sty fn=true then _ else _)=_
     rw[HSHJ.out,hnb,if_neg (by simp),if_neg (by simp)])
    cases hstop:stop
    ·go_wp2_with fail
     rw[HCF.out];refine HTC.out.mono ?_;rintro e w10 ⟨-,hgo⟩;obtain⟨rfl,rfl⟩:=hgo (.inl hstop);have HR1:=aA0 (HZ.out w10 bZ9).1;have HF1:=aA0 (HZ.out w10 bZ9).2.1;go_wp2_with fail
     go_roundw
     case measure=>simp[intOf];omega
     case rel=>exact⟨j+1,sv,by omega,by go_num,by rw[HK1.out,HFE2.out];exact HR1,HF1,aA0 fun h=>by rw[hstop] at h;cases h⟩
    ·have hb0:=HBJ.out hstop;have HBAD:Hid ((wkE ps all).bad=way++[fn]):=aA0 (by
      have h1:=HLOJ.out;rw[HFE2.out] at h1;have h2:(if bdd.length=0 then way++[fn] else bdd)=way++[fn]:=if_pos (by rw[hb0];rfl)
      rw[h2] at h1;exact h1 (by simp))
     have HNE:Hid ((wkE ps all).bad≠[]):=aA0 (by rw[HBAD.out];simp)
     have HE:Hid (aLF true lb base N m (.slice a pl c) (.string anm) (.slice ta atl tc) ps all w (.returned (.tuple #[])) (w9.setCell ⟨lb,0,none⟩ (.slice (some ⟨gy,0,none⟩) (way.length+1) capy))):=aA0 ⟨rfl,fun h=>h.elim (fun h=>by cases h) (fun h=>absurd h HNE.out),fun _=>⟨w9,some ⟨gy,0,none⟩,capy,hf9,by rw[HBAD.out,List.length_append,List.length_singleton],by rw[HBAD.out];exact aFN HOW9.out HNM.out.2.2⟩⟩
     go_wp2_with fail
     rw[HCF.out];refine HTC.out.mono ?_;rintro e w10 ⟨hno,-⟩;obtain⟨rfl,rfl⟩:=hno ⟨hstop,rfl⟩;go_wp2_with fail
     try rw[Exit.noGoto_ret]
     refine bodyPost_end (v:=.tuple #[]) ?res rfl (by rw[hstop];exact HE.out)
     case res=>simp[results,Tryz.results31,go_sem]
   ·have HTC:=aA0 (HTL.out w9 (some ⟨gy,0,none⟩) (way.length+1) capy true hf9);have hnv:=HNV.out hnb;have HFE2:Hid (K1=if aAV fo=true then⟨stt,wyy,bdd⟩ else if 0<=aCG stt ⟨aEO ps sp sty fn,fo⟩ then⟨stt,wyy,bdd⟩ else⟨stt++[⟨aEO ps sp sty fn,fo⟩],wyy++[way++[fn]],bdd⟩):=aA0 (by
     rw[HKJ.out];show(if fh=true then _ else if aCT ps sp sty fn=true then _ else _)=_
     rw[HSHJ.out,hnb,if_neg (by simp),if_pos rfl])
    rw[hnv];generalize aEO ps sp sty fn=xn at*;obtain⟨-,-,⟨p0,p1⟩,-⟩:=HZ.out w9 bZ9;have HLE:=aA0 (fun W=>aFR fo W);have HSW:Hid (Strs w9 (OffP base N m sv w9) (way++[fn]) (some ⟨gy,0,none⟩)):=aA0 ((aGG (n:=0) (cap:=capy) (g:=gy) (base:=Z.heap.size) (w:=w9) HOW9.out (fun j=>aQB HWN.out.2 HFSZ.out j) (by simp;unfold maxLen;omega)).sub fun b hb=>by
     have h1:=HNM.out;exact⟨by omega,hb.2,fun e=>by have:=HRL.out b e;omega,by omega,by omega⟩)
    have HCM:=aA0 (aOR base N m (.slice a pl c) (.string anm) (.slice ta atl tc) stt wyy sv ⟨xn,fo⟩ (way++[fn]) (some ⟨gy,0,none⟩) capy w9 (HZ.out w9 bZ9).1 HSW.out (by omega))
    rw[List.length_append,List.length_singleton] at HCM;have HR1:=aA0 (HZ.out w9 bZ9).1;have HF1:=aA0 (HZ.out w9 bZ9).2.1;clear hnv HNV HSW;cases hsc:aAV fo
    rotate_left
    ·have HN:Hid (K1=⟨stt,wyy,bdd⟩):=aA0 (by rw[HFE2.out,hsc];rfl)
     rw[hsc] at HLE;go_wp2_with fail
     rw[HCF.out];refine HTC.out.mono ?_;rintro e w10 ⟨-,hgo⟩;obtain⟨rfl,rfl⟩:=hgo (.inr rfl);go_wp2_with (go_at_call 59;refine(HLE.out _).mono ?_;rintro e w11 ⟨rfl,rfl⟩)
     go_roundw
     case measure=>simp[intOf];omega
     case rel=>exact⟨j+1,sv,by omega,by go_num,by rw[HK1.out,HN.out];exact HR1,HF1,by rw[HK1.out,HN.out];exact HBJ⟩
    ·have HN:Hid (K1=⟨stC stt ⟨xn,fo⟩,wyC stt wyy ⟨xn,fo⟩ (way++[fn]),bdd⟩):=aA0 (by
      rw[HFE2.out,hsc,if_neg (by simp)]
      unfold stC wyC;by_cases h:0<=aCG stt ⟨xn,fo⟩
      ·rw[if_pos h,if_pos h,if_pos h]
      ·rw[if_neg h,if_neg h,if_neg h])
     rw[hsc] at HLE;go_wp2_with fail
     rw[HCF.out];refine HTC.out.mono ?_;rintro e w10 ⟨-,hgo⟩;obtain⟨rfl,rfl⟩:=hgo (.inr rfl);go_wp2_with (first
      |(go_at_call 59;refine(HLE.out _).mono ?_;rintro e w11 ⟨rfl,rfl⟩)
      |(go_at_call 54;refine HCM.out.mono ?_;rintro e w11 ⟨rfl,sv',hr',hc',hn'⟩;have HR2:=aA0 hr';have HF2:=aA0 (HF1.out.chg hc' hn');clear hr' hc' hn'))
     go_roundw
     case measure=>simp[intOf];omega
     case rel=>exact⟨j+1,sv',by omega,by go_num,by rw[HK1.out,HN.out];exact HR2,HF2,by rw[HK1.out,HN.out];exact HBJ⟩
end Go.Proofs.YtcebpkeiaiiphaaGreatDoor
