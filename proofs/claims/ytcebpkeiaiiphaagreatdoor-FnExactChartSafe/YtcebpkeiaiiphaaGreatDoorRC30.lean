import Derived.Test.YtcebpkeiaiiphaaGreatDoorRC26
import Derived.Test.YtcebpkeiaiiphaaGreatDoorRC27
set_option linter.unusedSimpArgs false
set_option linter.unusedVariables false
namespace Go.Proofs.YtcebpkeiaiiphaaGreatDoor
open Go.RowKit Go.Maps
attribute [local go_sem] Oper.semAt_some
set_option maxRecDepth 20000 in
set_option maxHeartbeats 3200000 in
theorem aQW(ps:List Pt)(w:World)(A B:Nat)(a:Option Addr)(c:Nat)(hR:aAP w (fun b=>A<=b∧b<B) ps a)(hB:B<=w.heap.size)(hfc:fcP ps ps.length<=100000000)(hnd:∀i k n,(fth (tth (pth ps i).types k).fields n).needs.length<=1000000000):
  Calls Tryz.prog 48 #[.slice a ps.length c] w fun e w'=>∃ta tc,e=.returned (.agg #[.string ⟨#[97]⟩,.slice ta (allM ps).types.length tc])∧PRep w' (fun b=>(A<=b∧b<B)∨(w.heap.size<=b∧b<w'.heap.size)) (allM ps) (.agg #[.string ⟨#[97]⟩,.slice ta (allM ps).types.length tc])∧Below w.heap.size w w':=by
 have h40:=hR.1;have HR:=aA0 hR;have HBL:=aA0 hB;have HFC:=aA0 hfc;have HND:=aA0 hnd;clear hR hB hfc hnd;obtain⟨X,hXe⟩:∃X,X=w.alloc (.cells #[.string ⟨#[]⟩,.slice none 0 0] 46):=⟨_,rfl⟩;have zX:X.heap.size=w.heap.size+1:=by rw[hXe];simp
 have bw:Below w.heap.size w X:=by rw[hXe];exact aA2 _ _
 have nX:X.heap[w.heap.size]?=some (.cells #[.string ⟨#[]⟩,.slice none 0 0] 46 (0,0)):=by rw[hXe];exact aA3 _ _ rfl
 go_enter Tryz.func48,Tryz.ntmps48
 go_wp2_with fail
 rw[<-hXe];have HS0:Hid (aGC X A B (aBW ps 0) (X.alloc (.cells #[.string ⟨#[97]⟩,.slice none 0 0] 46))):=aA0 ⟨none,0,aA3 _ _ rfl,aCK.nil _ _ _,aA2 _ _,by simp⟩
 clear hXe;generalize X.alloc (.cells #[.string ⟨#[97]⟩,.slice none 0 0] 46)=w00 at*;go_loopw [4] (fun i wr=>∃k:Nat,k<=ps.length∧i=.int .i64 k∧Hid (aGC X A B (aBW ps k) wr)) (fun i _=>ps.length- (intOf i).toNat)
 case atStart=>exact⟨0,Nat.zero_le _,rfl,HS0⟩
 case round=>
  clear HS0;clear w00;obtain⟨k,hk,rfl,HK⟩:=hrel;obtain⟨w0,rfl⟩:∃x,x=wr:=⟨wr,rfl⟩;by_cases hlt:k<ps.length
  case neg=>
   have ek:k=ps.length:=by omega
   subst ek;obtain⟨ta,tc,hbox,hrow,hbX,hsz⟩:=HK.out;rw[zX] at hbox;have hres:=(hbX.block w.heap.size (by omega)).trans nX
   obtain⟨r0,f0⟩:=aA1 hres 0 (by simp)
   obtain⟨r1,f1⟩:=aA1 hres 1 (by simp)
   obtain⟨o0,-⟩:=aA1 hbox 0 (by simp)
   obtain⟨o1,-⟩:=aA1 hbox 1 (by simp)
   have HO:=aA0 (And.intro hrow hbX);clear hrow hbX;go_wp2_with fail
   have hf2:=aAC (aAC hres 0 (.string ⟨#[97]⟩)) 1 (.slice ta (aBW ps ps.length).length tc);have cx0:=(aA1 hf2 0 (by simp)).1
   have cx1:=(aA1 hf2 1 (by simp)).1
   simp only[sIA,sI0,sIS,List.getElem_toArray,List.getElem_cons_zero,List.getElem_cons_succ] at cx0 cx1;refine bodyPost_ret (v:=.agg #[.string ⟨#[97]⟩,.slice ta (aBW ps ps.length).length tc]) (by simp[results,Tryz.results48,go_sem,cx0,cx1]) rfl ?_
   have hbl:∀b,b≠w.heap.size->((w0.setCell ⟨w.heap.size,0,none⟩ (.string ⟨#[97]⟩)).setCell ⟨w.heap.size,1,none⟩ (.slice ta (aBW ps ps.length).length tc)).heap[b]?=w0.heap[b]?:=fun b hb=>(Below.heap_setCell _ _ _ _ hb).trans (Below.heap_setCell _ _ _ _ hb);have hT:=aCK.keepB (w':=(w0.setCell ⟨w.heap.size,0,none⟩ (.string ⟨#[97]⟩)).setCell ⟨w.heap.size,1,none⟩ (.slice ta (aBW ps ps.length).length tc)) HO.out.1 (fun b hq=>hbl b (by have:=HBL.out;rcases hq with h| h<;>omega)) (by simp)
   exact⟨ta,tc,rfl,(hT.partP (by have:=(BdH.parts ps ps.length).1;have:=HFC.out;omega)).sub (fun b hq=>hq.imp id fun x=>⟨by omega,x.2⟩),((bw.trans (HO.out.2.mono (by omega))).setCell (Nat.le_refl _) _).setCell (Nat.le_refl _) _⟩
  have hki:(k:Int)<(ps.length:Int):=by omega
  have hb:Below w.heap.size w w0:=by obtain⟨_,_,-,-,h,-⟩:=HK.out;exact bw.trans (h.mono (by omega))
  obtain⟨pb,po,pa,pc,rfl,hpB,q0,q1,hP⟩:=HR.out.atA k hlt;have hpl:pb<w.heap.size:=Nat.lt_of_lt_of_le hpB HBL.out;have HTS:Hid (aDA w (fun b=>A<=b∧b<B) (pth ps k).types pa):=aA0 (by
   obtain⟨ta',tc',e,h1,-⟩:=hP;simp only[Value.agg.injEq,Array.mk.injEq,List.cons.injEq,Value.slice.injEq,true_and,and_true] at e;obtain⟨rfl,rfl⟩:=e;exact h1)
  have HPT:Hid (∀W,Below w.heap.size w W->W.cell? ⟨pb,po+k*2+1,none⟩=some (.slice pa (pth ps k).types.length pc)):=aA0 fun W hW=>(hW.cell (aAA q1)).trans q1;have HFT:Hid (fcP ps k+fcT (pth ps k) (pth ps k).types.length<=100000000):=aA0 (by have h1:=HFC.out;have h2:=aV5 ps (show k+1<=ps.length by omega);rw[fcP] at h2;omega)
  have HSL:Hid (∀j,Hid (aGC X A B (aC9 ps (pth ps k) (aBW ps k) (pth ps k).types.length) j)->Hid (aGC X A B (aBW ps (k+1)) j)):=aA0 fun j h=>h;have HBT:=aA0 (fun j=>(BdH.parts ps k).types (ps:=ps) (p:=pth ps k) j);have HNK:=aA0 (HND.out k);clear hP q0 q1;have q1:=HPT.out w0 hb;have hpk0:(pth ps k).types.length<=6000000000000:=by have:=HTS.out.1;omega
  generalize aBW ps k=out0 at*;generalize pth ps k=p at*;go_wp2_with fail
  clear q1;go_loopw [5] (fun i wr=>∃j:Nat,j<=p.types.length∧i=.int .i64 j∧Hid (aGC X A B (aC9 ps p out0 j) wr)) (fun i _=>p.types.length- (intOf i).toNat)
  case atStart=>exact⟨0,Nat.zero_le _,rfl,HK⟩
  case round=>
   clear hb HK;clear w0;obtain⟨j,hj,rfl,HJ⟩:=hrel;obtain⟨w2,rfl⟩:∃x,x=wr:=⟨wr,rfl⟩;have hb2:Below w.heap.size w w2:=by obtain⟨_,_,-,-,h,-⟩:=HJ.out;exact bw.trans (h.mono (by omega))
   have q1:=HPT.out w2 hb2;by_cases hjl:j<p.types.length
   case neg=>
    have ej:j=p.types.length:=by omega
    subst ej;have HK1:=HSL.out _ HJ;go_wp2_with fail
    go_roundw
    case measure=>simp[intOf];omega
    case rel=>exact⟨k+1,by omega,by go_num,HK1⟩
   have hjli:(j:Int)<(p.types.length:Int):=by omega
   obtain⟨tb,toff,fa,fc,rfl,htr,hcs⟩:=HTS.out.atA HBL.out j hjl;obtain⟨t0,t1,t2⟩:=hcs w2 hb2;have HTR:=aA0 htr;have HSJ:Hid (∀W,aGC X A B (aQS ps (aC9 ps p out0 j) (tth p.types j)) W->Hid (aGC X A B (aC9 ps p out0 (j+1)) W)):=aA0 fun W h=>aA0 h;have HBJ:Hid (∃M,BdH (aC9 ps p out0 j) M∧M+(tth p.types j).fields.length+1<=100000000):=aA0 ⟨_,HBT.out j,by have h1:=HFT.out;have h2:=aTU p (show j+1<=p.types.length by omega);rw[fcT] at h2;omega⟩
   have HNJ:=aA0 (HNK.out j);clear htr hcs;generalize aC9 ps p out0 j=out at*;generalize tth p.types j=t at*;have HBX:=aA0 (HJ.out.box (by have:=HBL.out;omega) #[.string t.name,.string t.key,.slice fa t.fields.length fc])
   have z23:(w2.alloc (.cells #[.string t.name,.string t.key,.slice fa t.fields.length fc] 96)).heap.size=w2.heap.size+1:=by simp
   have b23:=aA2 w2 (.cells #[.string t.name,.string t.key,.slice fa t.fields.length fc] 96);obtain⟨ta,tc,hbox,hrow,hbX3,hs3,hne,htb,hxb,hbl⟩:=HBX.out;rw[zX] at hbox;obtain⟨o0,-⟩:=aA1 hbox 0 (by simp)
   obtain⟨o1,-⟩:=aA1 hbox 1 (by simp)
   obtain⟨u0,-⟩:=aA1 htb 0 (by simp)
   have HL2:=aA0 (aDO ⟨⟨#[97]⟩,out⟩ _ _ _ t.name (hrow.part (fun b hq=>by have:=HBL.out;have:b<B:=hq.2;omega) (by obtain⟨M,h1,h2⟩:=HBJ.out;have:=h1.1;omega)) (Nat.le_refl _))
   clear hrow hne htb hbX3;generalize hw3:w2.alloc (.cells #[.string t.name,.string t.key,.slice fa t.fields.length fc] 96)=w3 at*;go_wp2_with fail
   refine HL2.out.mono ?_;rintro e w4 ⟨rfl,hb4⟩;have HTX:Hid (tyIx out t.name=aA9 (fun i=>(tth out i).name.toList==t.name.toList) out.length):=aA0 rfl;have HB4:=aA0 (HBX.out.keep (by have:=HBL.out;omega) hb4)
   clear HL2 HBX;simp only[<-HTX.out];have HXC:Hid (tyIx out t.name=-1∨∃g:Nat,tyIx out t.name=(g:Int)∧g<out.length):=aA0 (by
    rw[HTX.out];rcases aA8 (fun i=>(tth out i).name.toList==t.name.toList) out.length with⟨h2,-⟩| ⟨g,h2,hg,-,-⟩
    ·exact Or.inl h2
    ·exact Or.inr ⟨g,h2,hg⟩)
   go_upto_if 39 with fail
   have HBA:Hid (∀g:Nat,tyIx out t.name=(g:Int)->aD5 ps out t=out∧atT out t=g):=aA0 fun g h=>by
    unfold aD5 atT;rw[h,if_pos (by omega),if_pos (by omega)]
    exact⟨rfl,by simp⟩
   have HBN:Hid (tyIx out t.name=-1->aD5 ps out t=out++[⟨t.name,keyM ps t.name,[]⟩]∧atT out t=out.length):=aA0 fun h=>by
    unfold aD5 atT;rw[h,if_neg (by omega),if_neg (by omega)]
    exact⟨rfl,rfl⟩
   have HMZ:Hid (∀W,Hid (aEP X A B (aD5 ps out t) w2.heap.size #[.string t.name,.string t.key,.slice fa t.fields.length fc] W)->Hid (aEP X A B (midT ps out t 0) w2.heap.size #[.string t.name,.string t.key,.slice fa t.fields.length fc] W)):=aA0 fun W h=>by rw[aN7];exact h
   have HMS:Hid (∀W,aGC X A B (midT ps out t t.fields.length) W->Hid (aGC X A B (aC9 ps p out0 (j+1)) W)):=aA0 fun W h=>HSJ.out W (by rw[<-aGQ];exact h)
   have HAL:Hid (∀n,n<=t.fields.length->atT out t<(midT ps out t n).length∧(tth (midT ps out t n) (atT out t)).fields.length<=100000000∧(midT ps out t n).length<=100000000∧midT ps out t (n+1)=(midT ps out t n).set (atT out t) (putF (tth (midT ps out t n) (atT out t)) (fth t.fields n))):=aA0 fun n hn=>by
    obtain⟨M,h1,h2⟩:=HBJ.out;have h3:=h1.mid (ps:=ps) t n;have h4:atT out t<(midT ps out t n).length:=by rw[aIF];exact aP0 ps out t
    exact⟨h4,by have:=h3.2 _ h4;omega,by have:=h3.1;omega,aJL ps out t n⟩
   generalize hat:atT out t=at' at*;generalize hbt:aD5 ps out t=base at*;go_cut [7] (fun r wx=>r=.int .i64 (at':Int)∧Hid (aEP X A B base w2.heap.size #[.string t.name,.string t.key,.slice fa t.fields.length fc] wx))
   case first=>
    rcases HXC.out with hx| ⟨g,hx,hg⟩
    ·rw[hx];obtain⟨rfl,rfl⟩:=HBN.out hx;obtain⟨ta',tc',hbox',hrow',hbX',hs',hne',htb',hxb',hbl'⟩:=HB4.out;rw[zX] at hbox';obtain⟨C4,ho4,hr4⟩:=hrow';obtain⟨iT,zT,hiT,hT0,hT1,hT2,hTz⟩:=aIL;have o1':=(aA1 hbox' 1 (by simp)).1
     have hol:out.length<=100000000:=by obtain⟨M,h1,h2⟩:=HBJ.out;have:=h1.1;omega
     have hlt4:=ho4.lt;have HW4:Hid (∀W,Below w4.heap.size w4 W->Below w.heap.size w W):=aA0 fun W hW=>bw.trans ((hbX'.trans (hW.mono (by omega))).mono (by omega))
     have HC1:Hid (∀W,Below w4.heap.size w4 W->W.cell? ⟨w.heap.size+1,1,none⟩=some (.slice ta' out.length tc')):=aA0 fun W hW=>(hW.cell (p:=⟨w.heap.size+1,1,none⟩) (by show w.heap.size+1<_;omega)).trans o1'
     have HS1:Hid (∀W,Below w4.heap.size w4 W->W.cell? ⟨w2.heap.size,0,none⟩=some (.string t.name)):=aA0 fun W hW=>(hW.cell (p:=⟨w2.heap.size,0,none⟩) hbl').trans (aA1 htb' 0 (by simp)).1
     have HOW:Hid (∀W,Below w4.heap.size w4 W->W.ownsRow (X.heap.size+1) 96 3 (.slice ta' out.length tc') out.length (aDG C4 out.length)∧X.heap.size+1<=W.heap.size):=aA0 fun W hW=>⟨aAE ho4 hW,Nat.le_trans hs' hW.size⟩;have HGR:Hid (∀W,Below w4.heap.size w4 W->∀W',W.grownBy W' (Value.slice ta' out.length tc').ownBlock->∀b,b<w4.heap.size->(Value.slice ta' out.length tc').ownBlock≠some b->W'.heap[b]?=w4.heap[b]?):=aA0 fun W hW W' hg b hb hn=>(hg.block b (Nat.lt_of_lt_of_le hb hW.size) (fun e=>hn e.symm)).trans (hW.block b hb);have HSF:Hid (∀W,Below w4.heap.size w4 W->∀W',W.grownBy W' (Value.slice ta' out.length tc').ownBlock->W'.cell? ⟨w2.heap.size,0,none⟩=some (.string t.name)):=aA0 fun W hW W' hg=>(aA1 ((HGR.out W hW W' hg _ hbl' hne').trans htb') 0 (by simp)).1
     have HBF:Hid (∀W,Below w4.heap.size w4 W->∀W',W.grownBy W' (Value.slice ta' out.length tc').ownBlock->W'.heap[w.heap.size+1]?=some (.cells #[.string ⟨#[97]⟩,(.slice ta' out.length tc')] 46 (0,0))):=aA0 fun W hW W' hg=>(HGR.out W hW W' hg _ (by omega) (fun e=>by have:=(hlt4 _ e).1;omega)).trans hbox'
     have HST:Hid (∀W,Below w4.heap.size w4 W->∀W',W.grownBy W' (Value.slice ta' out.length tc').ownBlock->∀v,(W'.setCell ⟨w.heap.size+1,1,none⟩ v).cell? ⟨w2.heap.size,0,none⟩=some (.string t.name)):=aA0 fun W hW W' hg v=>(World.cell?_of_block (a:=⟨w2.heap.size,0,none⟩) (Below.heap_setCell _ _ _ _ (by show w2.heap.size≠w.heap.size+1;omega))).trans (HSF.out W hW W' hg)
     have HKE:=aA0 (fun W (hW:Below w4.heap.size w4 W)=>aJX ps t.name W B (some ⟨pb,po,none⟩) c (HR.out.low.under ((HW4.out W hW).mono HBL.out)) (Nat.le_trans HBL.out (HW4.out W hW).size));have HEND:Hid (∀W,Below w4.heap.size w4 W->∀W' gF capF,W'.ownsRow (X.heap.size+1) 96 3 (.slice (some ⟨gF,0,none⟩) (out.length+1) capF) (out.length+1) (aDG C4 out.length++[.string t.name,.string (keyM ps t.name),.slice none 0 0])->W.grownBy W' (Value.slice ta' out.length tc').ownBlock->((Value.slice (some ⟨gF,0,none⟩) (out.length+1) capF).ownBlock=(Value.slice ta' out.length tc').ownBlock∨(Value.slice (some ⟨gF,0,none⟩) (out.length+1) capF).ownBlock=some W.heap.size)->Hid (aEP X A B (out++[⟨t.name,keyM ps t.name,[]⟩]) w2.heap.size #[.string t.name,.string t.key,.slice fa t.fields.length fc] (W'.setCell ⟨w.heap.size+1,1,none⟩ (.slice (some ⟨gF,0,none⟩) (out.length+1) capF)))):=aA0 fun W hW W' gF capF oF hg hob=>by
      have hz:=hW.size;have hname:t.name.size<=maxLen:=by obtain⟨_,_,-,-,-,h,-⟩:=HTR.out;exact h
      have hmv:∀b,Off (fun b=>A<=b∧b<B) (X.heap.size+1) w4 (.slice ta' out.length tc') b->b<w4.heap.size:=fun b hq=>hq.elim (fun h=>by have:b<B:=h.2;have:=HBL.out;omega) fun h=>h.2.1
      have:=aEP.push (X:=X) (W:=W) (W':=W') (A:=A) (B:=B) (bt:=w2.heap.size) (cs:=#[.string t.name,.string t.key,.slice fa t.fields.length fc]) ((hW.block _ (by omega)).trans (by rw[zX];exact hbox')) (HOW.out W hW).1 (fun i hi=>((hr4 i hi).mono fun b hq=>hW.block b (hmv b hq)).sub fun b hq=>hq.elim Or.inl fun h=>Or.inr ⟨h.1,by omega,h.2.2⟩) (hbX'.trans (hW.mono (by omega))) (HOW.out W hW).2 hne' ((hW.block _ hbl').trans htb') hxb' (by omega) (by have:=HBL.out;omega) ⟨t.name,keyM ps t.name,[]⟩ (.string t.name) (.string (keyM ps t.name)) (.slice none 0 0) ⟨none,0,rfl,aBJ.nil _ _ _,Nat.le_refl _,hname,aQU HR.out t.name⟩ oF hg hob
      rw[zX] at this;exact this
     clear hbox' hbX' htb' ho4 hr4 hlt4 HB4;go_upto_region 12 with fail
     clear o1';refine wp_region_held_drew (S:=(fun w'=>w'.cell? ⟨w2.heap.size,0,none⟩=some (.string t.name))) (by kernel_rfl) (HS1.out _ (Below.refl _ _).drew) (fun hHeld=>?_)
     have bX:Below w4.heap.size w4 w4.drew:=(Below.refl _ _).drew;generalize w4.drew=wD at*;refine tkH 0 hHeld ?_;refine tkH 2 hHeld ?_;refine tkH 3 hHeld ?_;refine tkH 4 hHeld ?_;refine tkH 5 hHeld ?_;refine tkH 6 hHeld ?_;refine rdyH [1,7] ?_;refine rcH (fun K hK=>?_) ?_
     ·have c1:=HC1.out wD bX;go_simp
      clear c1;refine hK.out _ _ (HS1.out _ bX) (fun hHeld=>?_);clear hK K;try simp only[Act.put,sIA,sI0,sIS]
      refine rdyH [7] ?_;refine rcH (fun K hK=>?_) AllReadyH.nil;go_simp
      refine(HKE.out wD bX).mono ?_;rintro e wK ⟨rfl,bK⟩;have bX:=bX.trans (bK.mono bX.size);refine hK.out _ _ (HS1.out _ bX) (fun hHeld=>?_);clear hK K;try simp only[Act.put,sIA,sI0,sIS]
      refine tkH 8 hHeld ?_;refine rdyH [9] ?_;refine rcH (fun K hK=>?_) AllReadyH.nil;go_simp
      have bE:=aA2 wK (.cells #[.string t.name,.string (keyM ps t.name),.slice none 0 0] 96);obtain⟨gE,hgE⟩:∃g,g=wK.heap.size:=⟨_,rfl⟩;have nE:=aA3 (w:=wK) (N:=gE) #[.string t.name,.string (keyM ps t.name),.slice none 0 0] 96 hgE.symm;have bX:=bX.trans (bE.mono bX.size);refine hK.out _ _ (HS1.out _ bX) (fun hHeld=>?_);clear hK K;try simp only[Act.put,sIA,sI0,sIS]
      rw[<-hgE];generalize wK.alloc (.cells #[.string t.name,.string (keyM ps t.name),.slice none 0 0] 96)=wE at*;clear hgE bE;refine rdyH [10] ?_;refine rcH (fun K hK=>?_) AllReadyH.nil;refine aBG rfl (.tmp 44) (.tmp 52) 44 rfl (X.heap.size+1) 96 iT zT 3 56 Tryz.underlying44 hiT hT0 hT1 hT2 hTz (by decide) (.slice ta' out.length tc') out.length (aDG C4 out.length) rfl (HOW.out wE bX).1 ⟨gE,0,none⟩ 1 1 [.string t.name,.string (keyM ps t.name),.slice none 0 0] rfl rfl (World.news_of_block nE) (by intro u hu;simp at hu;rcases hu with rfl| rfl| rfl<;>rfl) (by unfold maxLen;omega) (by omega) (HOW.out wE bX).2 ?_
      intro v' wF oF hgrF hiffF hobF;obtain⟨gF,capF,rfl,-,-⟩:=oF.form (by omega)
      refine hK.out _ _ (HSF.out _ bX _ hgrF) (fun hHeld=>?_);clear hK K;try simp only[Act.put,sIA,sI0,sIS]
      refine tkH 11 hHeld ?_;refine rdyH [12] ?_;refine rcH (fun K hK=>?_) AllReadyH.nil;have hbx:=HBF.out _ bX _ hgrF;obtain⟨c1,z1⟩:=aA1 hbx 1 (by simp)
      go_simp
      clear hbx c1 z1;refine hK.out _ _ (HST.out _ bX _ hgrF _) (fun hHeld=>?_);clear hK K;try simp only[Act.put,sIA,sI0,sIS]
      refine wpAnyH_done (by kernel_rfl) ?_ _
      have HFIN:=aA0 (HEND.out _ bX _ gF capF oF hgrF hobF);clear HEND;go_wp2_with fail
      go_meet
      case rel=>exact⟨rfl,HFIN⟩
     refine rcH (fun K hK=>?_) AllReadyH.nil;go_simp
     refine(HKE.out wD bX).mono ?_;rintro e wK ⟨rfl,bK⟩;have bX:=bX.trans (bK.mono bX.size);refine hK.out _ _ (HS1.out _ bX) (fun hHeld=>?_);clear hK K;try simp only[Act.put,sIA,sI0,sIS]
     refine tkH 8 hHeld ?_;refine rdyH [1,9] ?_;refine rcH (fun K hK=>?_) ?_
     ·have c1:=HC1.out wK bX;go_simp
      clear c1;refine hK.out _ _ (HS1.out _ bX) (fun hHeld=>?_);clear hK K;try simp only[Act.put,sIA,sI0,sIS]
      refine rdyH [9] ?_;refine rcH (fun K hK=>?_) AllReadyH.nil;go_simp
      have bE:=aA2 wK (.cells #[.string t.name,.string (keyM ps t.name),.slice none 0 0] 96);obtain⟨gE,hgE⟩:∃g,g=wK.heap.size:=⟨_,rfl⟩;have nE:=aA3 (w:=wK) (N:=gE) #[.string t.name,.string (keyM ps t.name),.slice none 0 0] 96 hgE.symm;have bX:=bX.trans (bE.mono bX.size);refine hK.out _ _ (HS1.out _ bX) (fun hHeld=>?_);clear hK K;try simp only[Act.put,sIA,sI0,sIS]
      rw[<-hgE];generalize wK.alloc (.cells #[.string t.name,.string (keyM ps t.name),.slice none 0 0] 96)=wE at*;clear hgE bE;refine rdyH [10] ?_;refine rcH (fun K hK=>?_) AllReadyH.nil;refine aBG rfl (.tmp 44) (.tmp 52) 44 rfl (X.heap.size+1) 96 iT zT 3 56 Tryz.underlying44 hiT hT0 hT1 hT2 hTz (by decide) (.slice ta' out.length tc') out.length (aDG C4 out.length) rfl (HOW.out wE bX).1 ⟨gE,0,none⟩ 1 1 [.string t.name,.string (keyM ps t.name),.slice none 0 0] rfl rfl (World.news_of_block nE) (by intro u hu;simp at hu;rcases hu with rfl| rfl| rfl<;>rfl) (by unfold maxLen;omega) (by omega) (HOW.out wE bX).2 ?_
      intro v' wF oF hgrF hiffF hobF;obtain⟨gF,capF,rfl,-,-⟩:=oF.form (by omega)
      refine hK.out _ _ (HSF.out _ bX _ hgrF) (fun hHeld=>?_);clear hK K;try simp only[Act.put,sIA,sI0,sIS]
      refine tkH 11 hHeld ?_;refine rdyH [12] ?_;refine rcH (fun K hK=>?_) AllReadyH.nil;have hbx:=HBF.out _ bX _ hgrF;obtain⟨c1,z1⟩:=aA1 hbx 1 (by simp)
      go_simp
      clear hbx c1 z1;refine hK.out _ _ (HST.out _ bX _ hgrF _) (fun hHeld=>?_);clear hK K;try simp only[Act.put,sIA,sI0,sIS]
      refine wpAnyH_done (by kernel_rfl) ?_ _
      have HFIN:=aA0 (HEND.out _ bX _ gF capF oF hgrF hobF);clear HEND;go_wp2_with fail
      go_meet
      case rel=>exact⟨rfl,HFIN⟩
     refine rcH (fun K hK=>?_) AllReadyH.nil;go_simp
     have bE:=aA2 wK (.cells #[.string t.name,.string (keyM ps t.name),.slice none 0 0] 96);obtain⟨gE,hgE⟩:∃g,g=wK.heap.size:=⟨_,rfl⟩;have nE:=aA3 (w:=wK) (N:=gE) #[.string t.name,.string (keyM ps t.name),.slice none 0 0] 96 hgE.symm;have bX:=bX.trans (bE.mono bX.size);refine hK.out _ _ (HS1.out _ bX) (fun hHeld=>?_);clear hK K;try simp only[Act.put,sIA,sI0,sIS]
     rw[<-hgE];generalize wK.alloc (.cells #[.string t.name,.string (keyM ps t.name),.slice none 0 0] 96)=wE at*;clear hgE bE;refine rdyH [1] ?_;refine rcH (fun K hK=>?_) AllReadyH.nil;have c1:=HC1.out wE bX;go_simp
     clear c1;refine hK.out _ _ (HS1.out _ bX) (fun hHeld=>?_);clear hK K;try simp only[Act.put,sIA,sI0,sIS]
     refine rdyH [10] ?_;refine rcH (fun K hK=>?_) AllReadyH.nil;refine aBG rfl (.tmp 44) (.tmp 52) 44 rfl (X.heap.size+1) 96 iT zT 3 56 Tryz.underlying44 hiT hT0 hT1 hT2 hTz (by decide) (.slice ta' out.length tc') out.length (aDG C4 out.length) rfl (HOW.out wE bX).1 ⟨gE,0,none⟩ 1 1 [.string t.name,.string (keyM ps t.name),.slice none 0 0] rfl rfl (World.news_of_block nE) (by intro u hu;simp at hu;rcases hu with rfl| rfl| rfl<;>rfl) (by unfold maxLen;omega) (by omega) (HOW.out wE bX).2 ?_
     intro v' wF oF hgrF hiffF hobF;obtain⟨gF,capF,rfl,-,-⟩:=oF.form (by omega)
     refine hK.out _ _ (HSF.out _ bX _ hgrF) (fun hHeld=>?_);clear hK K;try simp only[Act.put,sIA,sI0,sIS]
     refine tkH 11 hHeld ?_;refine rdyH [12] ?_;refine rcH (fun K hK=>?_) AllReadyH.nil;have hbx:=HBF.out _ bX _ hgrF;obtain⟨c1,z1⟩:=aA1 hbx 1 (by simp)
     go_simp
     clear hbx c1 z1;refine hK.out _ _ (HST.out _ bX _ hgrF _) (fun hHeld=>?_);clear hK K;try simp only[Act.put,sIA,sI0,sIS]
     refine wpAnyH_done (by kernel_rfl) ?_ _
     have HFIN:=aA0 (HEND.out _ bX _ gF capF oF hgrF hobF);clear HEND;go_wp2_with fail
     go_meet
     case rel=>exact⟨rfl,HFIN⟩
    ·rw[hx];have hgi:¬(g:Int)<0:=by omega
     obtain⟨rfl,rfl⟩:=HBA.out g hx;go_wp2_with fail
     go_meet
     case rel=>exact⟨rfl,HB4⟩
   case rest=>
   obtain⟨rfl,HC⟩:=hcut;obtain⟨w5,rfl⟩:∃x,x=wc:=⟨wc,rfl⟩;have HC0:=HMZ.out w5 HC;clear HC HXC HBA HBN HB4 HMZ;go_wp2_with fail
   go_loopw [8] (fun i wr=>∃n:Nat,n<=t.fields.length∧i=.int .i64 n∧Hid (aEP X A B (midT ps out t n) w2.heap.size #[.string t.name,.string t.key,.slice fa t.fields.length fc] wr)) (fun i _=>t.fields.length- (intOf i).toNat)
   case atStart=>exact⟨0,Nat.zero_le _,rfl,HC0⟩
   case round=>
    clear HC0;obtain⟨n,hn,rfl,HN⟩:=hrel;obtain⟨w6,rfl⟩:∃x,x=wr:=⟨wr,rfl⟩;obtain⟨ta6,tc6,hbox6,hrow6,hbX6,hs6,hne6,htb6,hxb6,hbl6⟩:=HN.out;rw[zX] at hbox6;have y2:=(aA1 htb6 2 (by simp)).1
    by_cases hnl:n<t.fields.length
    case neg=>
     have en:n=t.fields.length:=by omega
     subst en;have HJ1:=HMS.out _ HN.out.st;clear hrow6 hbX6 hbox6;go_wp2_with fail
     exact⟨⟨j+1,by omega,by go_num,HJ1⟩,by simp[intOf];omega⟩
    have hnli:(n:Int)<(t.fields.length:Int):=by omega
    obtain⟨h_at,hlA,hlB,hsucc⟩:=HAL.out n hn;obtain⟨g,fa6,fc6,rfl,hgB,hgl,k0,k1,k2,hfz,htr6⟩:=hrow6.at at' h_at;have HFS:Hid (aBJ w (fun b=>A<=b∧b<B) t.fields fa):=aA0 (by
     obtain⟨fa',fc',e,h1,-⟩:=HTR.out;simp only[Value.agg.injEq,Array.mk.injEq,List.cons.injEq,Value.slice.injEq,true_and,and_true] at e;obtain⟨rfl,rfl⟩:=e;exact h1)
    have h64:=HFS.out.1;obtain⟨fb,foff,na,nc,rfl,hfB,hfc8,hfr⟩:=HFS.out.atF n hnl;have hat3:(at':Int)<((midT ps out t n).length:Int):=by omega
    have hb6:Below w.heap.size w w6:=bw.trans (hbX6.mono (by omega))
    have HW6:Hid (∀W,Below w6.heap.size w6 W->Below w.heap.size w W):=aA0 fun W hW=>hb6.trans (hW.mono hb6.size);have HNE:Hid (g≠w2.heap.size):=aA0 fun e=>hne6 (by rw[e];rfl)
    have HPR:=aA0 (And.intro hbox6 (And.intro hrow6 (And.intro hbX6 htb6)));have HMS1:Hid (∀W,aEP X A B ((midT ps out t n).set at' (putF (tth (midT ps out t n) at') (fth t.fields n))) w2.heap.size #[.string t.name,.string t.key,.slice (some ⟨fb,foff,none⟩) t.fields.length fc] W->Hid (aEP X A B (midT ps out t (n+1)) w2.heap.size #[.string t.name,.string t.key,.slice (some ⟨fb,foff,none⟩) t.fields.length fc] W)):=aA0 fun W h=>by rw[hsucc];exact h
    have hnd1:=HNJ.out n;have HF8:Hid (∀W,Below w6.heap.size w6 W->∀j,j<8->W.cell? ⟨fb,foff+n*8+j,none⟩=some ([Value.string (fth t.fields n).name,.string (fth t.fields n).of,.bool (fth t.fields n).list,.bool (fth t.fields n).must,.bool (fth t.fields n).far,.bool (fth t.fields n).hidden,.bool (fth t.fields n).shared,.slice na (fth t.fields n).needs.length nc].getD j undef)):=aA0 fun W hW j hj=>((HW6.out W hW).cell (p:=⟨fb,foff+n*8+j,none⟩) (by show fb<_;have:=HBL.out;omega)).trans (hfc8 j hj)
    have HFZ:Hid (∀W,Below w6.heap.size w6 W->∀j,W.frozen? ⟨g,j,none⟩=false):=aA0 fun W hW j=>(World.frozen?_of_block (w:=w6) (hW.block g hgl)).trans (hfz j);have HPU:=aA0 (fun W (hW:Below w6.heap.size w6 W)=>aS0 (tth (midT ps out t n) at') (fth t.fields n) fa6 na fc6 nc W _ _ (htr6.mono fun b hq=>hW.block b (by rcases hq with h| h;(have:b<B:=h.2;have:=HBL.out;have:=hb6.size;omega);exact h.2.1)) (hfr.mono fun b hq=>(HW6.out W hW).block b (by have:b<B:=hq.2;have:=HBL.out;omega)) (fun b hq=>by have:=hW.size;rcases hq with h| h;(have:b<B:=h.2;have:=HBL.out;have:=hb6.size;omega);exact Nat.lt_of_lt_of_le h.2.1 hW.size) (fun b hq=>by have:b<B:=hq.2;have:=HBL.out;have:=(HW6.out W hW).size;omega) (by omega) hnd1)
    have hbox1:=(aA1 hbox6 1 (by simp)).1
    clear hfc8 hfr hfz htr6 hrow6 hbX6 htb6 hsucc hnd1 HFS;generalize midT ps out t n=mid at*;generalize fth t.fields n=f at*;generalize tth mid at'=o at*;have HCN:Hid (∀W,Below w6.heap.size w6 W->W.cell? ⟨w.heap.size+1,1,none⟩=some (.slice (some ⟨g,0,none⟩) mid.length tc6)∧W.cell? ⟨g,at'*3,none⟩=some (.string o.name)∧W.cell? ⟨g,at'*3+1,none⟩=some (.string o.key)∧W.cell? ⟨g,at'*3+2,none⟩=some (.slice fa6 o.fields.length fc6)∧W.cell? ⟨w2.heap.size,2,none⟩=some (.slice (some ⟨fb,foff,none⟩) t.fields.length fc)∧W.cell? ⟨fb,foff+n*8,none⟩=some (.string f.name)∧W.cell? ⟨fb,foff+n*8+1,none⟩=some (.string f.of)∧W.cell? ⟨fb,foff+n*8+2,none⟩=some (.bool f.list)∧W.cell? ⟨fb,foff+n*8+3,none⟩=some (.bool f.must)∧W.cell? ⟨fb,foff+n*8+4,none⟩=some (.bool f.far)∧W.cell? ⟨fb,foff+n*8+5,none⟩=some (.bool f.hidden)∧W.cell? ⟨fb,foff+n*8+6,none⟩=some (.bool f.shared)∧W.cell? ⟨fb,foff+n*8+7,none⟩=some (.slice na f.needs.length nc)):=aA0 fun W hW=>⟨(hW.cell (p:=⟨w.heap.size+1,1,none⟩) (by show w.heap.size+1<_;omega)).trans hbox1,(hW.cell (p:=⟨g,at'*3,none⟩) hgl).trans k0,(hW.cell (p:=⟨g,at'*3+1,none⟩) hgl).trans k1,(hW.cell (p:=⟨g,at'*3+2,none⟩) hgl).trans k2,(hW.cell (p:=⟨w2.heap.size,2,none⟩) hbl6).trans y2,HF8.out W hW 0 (by omega),HF8.out W hW 1 (by omega),HF8.out W hW 2 (by omega),HF8.out W hW 3 (by omega),HF8.out W hW 4 (by omega),HF8.out W hW 5 (by omega),HF8.out W hW 6 (by omega),HF8.out W hW 7 (by omega)⟩
    have HCS:Hid (∀W,Below w6.heap.size w6 W->W.cell? ⟨w.heap.size+1,1,none⟩=some (.slice (some ⟨g,0,none⟩) mid.length tc6)∧W.cell? ⟨w2.heap.size,2,none⟩=some (.slice (some ⟨fb,foff,none⟩) t.fields.length fc)∧W.cell? ⟨fb,foff+n*8,none⟩=some (.string f.name)∧W.cell? ⟨fb,foff+n*8+1,none⟩=some (.string f.of)∧W.cell? ⟨fb,foff+n*8+2,none⟩=some (.bool f.list)∧W.cell? ⟨fb,foff+n*8+3,none⟩=some (.bool f.must)∧W.cell? ⟨fb,foff+n*8+4,none⟩=some (.bool f.far)∧W.cell? ⟨fb,foff+n*8+5,none⟩=some (.bool f.hidden)∧W.cell? ⟨fb,foff+n*8+6,none⟩=some (.bool f.shared)∧W.cell? ⟨fb,foff+n*8+7,none⟩=some (.slice na f.needs.length nc)):=aA0 fun W hW=>by
     obtain⟨h1,-,-,-,h2⟩:=HCN.out W hW;exact⟨h1,h2⟩
    have HST:Hid (∀W,Below w6.heap.size w6 W->∀v0 v1 v2:Value,(((W.setCell ⟨g,at'*3,none⟩ v0).setCell ⟨g,at'*3+1,none⟩ v1).setCell ⟨g,at'*3+2,none⟩ v2).cell? ⟨w.heap.size+1,1,none⟩=some (.slice (some ⟨g,0,none⟩) mid.length tc6)∧(((W.setCell ⟨g,at'*3,none⟩ v0).setCell ⟨g,at'*3+1,none⟩ v1).setCell ⟨g,at'*3+2,none⟩ v2).cell? ⟨w2.heap.size,2,none⟩=some (.slice (some ⟨fb,foff,none⟩) t.fields.length fc)∧(((W.setCell ⟨g,at'*3,none⟩ v0).setCell ⟨g,at'*3+1,none⟩ v1).setCell ⟨g,at'*3+2,none⟩ v2).cell? ⟨fb,foff+n*8,none⟩=some (.string f.name)∧(((W.setCell ⟨g,at'*3,none⟩ v0).setCell ⟨g,at'*3+1,none⟩ v1).setCell ⟨g,at'*3+2,none⟩ v2).cell? ⟨fb,foff+n*8+1,none⟩=some (.string f.of)∧(((W.setCell ⟨g,at'*3,none⟩ v0).setCell ⟨g,at'*3+1,none⟩ v1).setCell ⟨g,at'*3+2,none⟩ v2).cell? ⟨fb,foff+n*8+2,none⟩=some (.bool f.list)∧(((W.setCell ⟨g,at'*3,none⟩ v0).setCell ⟨g,at'*3+1,none⟩ v1).setCell ⟨g,at'*3+2,none⟩ v2).cell? ⟨fb,foff+n*8+3,none⟩=some (.bool f.must)∧(((W.setCell ⟨g,at'*3,none⟩ v0).setCell ⟨g,at'*3+1,none⟩ v1).setCell ⟨g,at'*3+2,none⟩ v2).cell? ⟨fb,foff+n*8+4,none⟩=some (.bool f.far)∧(((W.setCell ⟨g,at'*3,none⟩ v0).setCell ⟨g,at'*3+1,none⟩ v1).setCell ⟨g,at'*3+2,none⟩ v2).cell? ⟨fb,foff+n*8+5,none⟩=some (.bool f.hidden)∧(((W.setCell ⟨g,at'*3,none⟩ v0).setCell ⟨g,at'*3+1,none⟩ v1).setCell ⟨g,at'*3+2,none⟩ v2).cell? ⟨fb,foff+n*8+6,none⟩=some (.bool f.shared)∧(((W.setCell ⟨g,at'*3,none⟩ v0).setCell ⟨g,at'*3+1,none⟩ v1).setCell ⟨g,at'*3+2,none⟩ v2).cell? ⟨fb,foff+n*8+7,none⟩=some (.slice na f.needs.length nc)):=aA0 fun W hW v0 v1 v2=>by
     have hc:∀b off,b≠g->(((W.setCell ⟨g,at'*3,none⟩ v0).setCell ⟨g,at'*3+1,none⟩ v1).setCell ⟨g,at'*3+2,none⟩ v2).cell? ⟨b,off,none⟩=W.cell? ⟨b,off,none⟩:=fun b off hb=>World.cell?_of_block (a:=⟨b,off,none⟩) (((Below.heap_setCell _ _ _ _ hb).trans (Below.heap_setCell _ _ _ _ hb)).trans (Below.heap_setCell _ _ _ _ hb));have e1:w.heap.size+1≠g:=by omega
     have e2:w2.heap.size≠g:=fun e=>HNE.out e.symm;have e3:fb≠g:=by have:=HBL.out;omega
     simp only[hc _ _ e1,hc _ _ e2,hc _ _ e3];exact HCS.out W hW
    have HEND:Hid (∀W,Below w6.heap.size w6 W->∀W',Below W.heap.size W W'->∀fa7 fc7,TRep W' (fun b=>Off (fun b=>A<=b∧b<B) (X.heap.size+1) w6 (.slice (some ⟨g,0,none⟩) mid.length tc6) b∨(A<=b∧b<B)∨(W.heap.size<=b∧b<W'.heap.size)) (putF o f) (.agg #[.string o.name,.string o.key,.slice fa7 (putF o f).fields.length fc7])->Hid (aEP X A B (midT ps out t (n+1)) w2.heap.size #[.string t.name,.string t.key,.slice (some ⟨fb,foff,none⟩) t.fields.length fc] (((W'.setCell ⟨g,at'*3,none⟩ (.string o.name)).setCell ⟨g,at'*3+1,none⟩ (.string o.key)).setCell ⟨g,at'*3+2,none⟩ (.slice fa7 (putF o f).fields.length fc7)))):=aA0 fun W hW W' hW' fa7 fc7 hT=>by
     have hb':=hW.trans (hW'.mono hW.size);obtain⟨p1,p2,p3,p4⟩:=HPR.out;have hz:=hW.size;have hz':=hW'.size;refine HMS1.out _ (aEP.put ((hb'.block _ (by omega)).trans (by rw[zX];exact p1)) (p2.keep (fun b hq=>by have:b<B:=hq.2;have:=HBL.out;omega) hb') (p3.trans (hb'.mono (by omega))) (by omega) HNE.out ((hb'.block _ hbl6).trans p4) hxb6 (by omega) (by have:=HBL.out;omega) hgB h_at _ _ _ _ (hT.sub fun b hq=>?_))
     rcases hq with(h| h)| h| h
     ·exact Or.inl h
     ·exact Or.inr ⟨h.1,by omega,h.2.2⟩
     ·exact Or.inl h
     ·exact Or.inr ⟨by omega,h.2,fun e=>by have:g=b:=Option.some.inj e;omega⟩
    clear k0 k1 k2 hbox1 hbox6;go_wp2_with fail
    refine wp_region_held_drew (S:=(fun w'=>w'.cell? ⟨w.heap.size+1,1,none⟩=some (.slice (some ⟨g,0,none⟩) mid.length tc6)∧w'.cell? ⟨w2.heap.size,2,none⟩=some (.slice (some ⟨fb,foff,none⟩) t.fields.length fc)∧w'.cell? ⟨fb,foff+n*8,none⟩=some (.string f.name)∧w'.cell? ⟨fb,foff+n*8+1,none⟩=some (.string f.of)∧w'.cell? ⟨fb,foff+n*8+2,none⟩=some (.bool f.list)∧w'.cell? ⟨fb,foff+n*8+3,none⟩=some (.bool f.must)∧w'.cell? ⟨fb,foff+n*8+4,none⟩=some (.bool f.far)∧w'.cell? ⟨fb,foff+n*8+5,none⟩=some (.bool f.hidden)∧w'.cell? ⟨fb,foff+n*8+6,none⟩=some (.bool f.shared)∧w'.cell? ⟨fb,foff+n*8+7,none⟩=some (.slice na f.needs.length nc))) (by kernel_rfl) (HCS.out _ (Below.refl _ _).drew) (fun hHeld=>?_)
    have bX:Below w6.heap.size w6 w6.drew:=(Below.refl _ _).drew;generalize w6.drew=wD at*;refine tkH 0 hHeld ?_;refine tkH 1 hHeld ?_;refine tkH 2 hHeld ?_;refine tkH 3 hHeld ?_;refine tkH 4 hHeld ?_;refine tkH 5 hHeld ?_;refine tkH 6 hHeld ?_;refine tkH 8 hHeld ?_;refine tkH 9 hHeld ?_;refine tkH 10 hHeld ?_;refine tkH 11 hHeld ?_;refine tkH 12 hHeld ?_;refine rdyH [7] ?_;refine rcH (fun K hK=>?_) AllReadyH.nil;have k0:=(HCN.out wD bX).2.1;have k1:=(HCN.out wD bX).2.2.1;have k2:=(HCN.out wD bX).2.2.2.1;go_simp
    clear k0 k1 k2;refine hK.out _ _ (HCS.out _ bX) (fun hHeld=>?_);clear hK K;try simp only[Act.put,sIA,sI0,sIS]
    refine rdyH [13] ?_;refine rcH (fun K hK=>?_) AllReadyH.nil;go_simp
    refine(HPU.out wD bX).mono ?_;rintro e wA ⟨fa7,fc7,rfl,hT7,bA⟩;have HT7:=aA0 hT7;clear hT7;have bP:=bX;have bX:=bX.trans (bA.mono bX.size);refine hK.out _ _ (HCS.out _ bX) (fun hHeld=>?_);clear hK K;try simp only[Act.put,sIA,sI0,sIS]
    refine tkH 14 hHeld ?_;refine rdyH [15] ?_;refine rcH (fun K hK=>?_) AllReadyH.nil;have z0:=HFZ.out wA bX (at'*3);have z1:=HFZ.out wA bX (at'*3+1);have z2:=HFZ.out wA bX (at'*3+2);have k0:=(HCN.out wA bX).2.1;have k1:=(HCN.out wA bX).2.2.1;have k2:=(HCN.out wA bX).2.2.2.1;go_simp
    clear z0 z1 z2 k0 k1 k2;refine hK.out _ _ (HST.out _ bX _ _ _) (fun hHeld=>?_);clear hK K;try simp only[Act.put,sIA,sI0,sIS]
    refine wpAnyH_done (by kernel_rfl) ?_ _
    have HFIN:=aA0 (HEND.out wD bP wA bA fa7 fc7 HT7.out);clear HEND;go_wp2_with fail
    exact⟨⟨n+1,by omega,by go_num,HFIN.out⟩,by simp[intOf];omega⟩
end Go.Proofs.YtcebpkeiaiiphaaGreatDoor
