import Derived.Test.YtcebpkeiaiiphaaGreatDoorRC30
import Derived.Test.YtcebpkeiaiiphaaGreatDoorRC29
set_option linter.unusedSimpArgs false
set_option linter.unusedVariables false
namespace Go.Proofs.YtcebpkeiaiiphaaGreatDoor
open Go.RowKit
theorem aP8(q:Nat->Bool):∀n,aA7 q n=true->∀i,i<n->q i=true
 |0,_,i,hi=>absurd hi (Nat.not_lt_zero _)
 |n+1,h,i,hi=>by
  rw[aA7,Bool.and_eq_true] at h;by_cases e:i=n
  ·subst e;exact h.2
  ·exact aP8 q n h.1 i (by omega)
theorem aKY{ps:List Pt}{okp:Pt->Bool}(h:aBV ps okp=true):0<ps.length∧ps.length<=4∧∀i,i<ps.length->okp (pth ps i)=true:=by
 unfold aBV at h;simp only[Bool.and_eq_true,decide_eq_true_eq] at h;refine⟨h.1.1.1,h.1.1.2,fun i hi=>?_⟩;have:=aP8 _ _ h.1.2 i hi;unfold aF3 at this;rw[Bool.and_eq_true] at this;exact this.1
theorem aGS(fs:List F)(k:Nat):∀n,k<n->szF (fth fs k)<=aBE fs n
 |0,h=>absurd h (Nat.not_lt_zero _)
 |n+1,h=>by
  rw[aC0];by_cases e:k=n
  ·subst e;omega
  ·have:=aGS fs k n (by omega)
   omega
theorem aSO(ps:List Pt)(hz:∀i,i<ps.length->szP (pth ps i)<=1048576)(i k n:Nat):(fth (tth (pth ps i).types k).fields n).needs.length<=1000000000:=by
 by_cases hi:i<ps.length
 ·have h0:=hz i hi;have h1:szP (pth ps i)=(pth ps i).name.size+((pth ps i).types.length+aB1 (pth ps i).types (pth ps i).types.length):=rfl;generalize pth ps i=p at*;by_cases hk:k<p.types.length
  ·have h2:=aFK p.types k p.types.length hk;have h3:szT (tth p.types k)=(tth p.types k).name.size+(tth p.types k).key.size+((tth p.types k).fields.length+aBE (tth p.types k).fields (tth p.types k).fields.length):=rfl;generalize tth p.types k=t at*;by_cases hn:n<t.fields.length
   ·have h4:=aGS t.fields n t.fields.length hn;have h5:szF (fth t.fields n)=(fth t.fields n).name.size+(fth t.fields n).of.size+((fth t.fields n).needs.length+aEH (fth t.fields n).needs (fth t.fields n).needs.length):=rfl;omega
   ·have:fth t.fields n=F.zero:=by simp[fth,List.getD_eq_getElem?_getD,List.getElem?_eq_none (Nat.le_of_not_lt hn)]
    rw[this];exact Nat.zero_le _
  ·have e1:tth p.types k=T.zero:=by simp[tth,List.getD_eq_getElem?_getD,List.getElem?_eq_none (Nat.le_of_not_lt hk)]
   rw[e1];have:fth T.zero.fields n=F.zero:=by simp[fth,T.zero]
   rw[this];exact Nat.zero_le _
 ·have e0:pth ps i=Pt.zero:=by simp[pth,List.getD_eq_getElem?_getD,List.getElem?_eq_none (Nat.le_of_not_lt hi)]
  rw[e0];have e1:tth Pt.zero.types k=T.zero:=by simp[tth,Pt.zero]
  rw[e1];have:fth T.zero.fields n=F.zero:=by simp[fth,T.zero]
  rw[this];exact Nat.zero_le _
end Go.Proofs.YtcebpkeiaiiphaaGreatDoor
namespace Go.Proofs.YtcebpkeiaiiphaaGreatDoor
open Go.RowKit Go.Maps
theorem InvY.start{w w0:World}{P:Nat->Prop}{B sb:Nat}{pv:Value}{X:Su}{c:Nat}{V:Sv}(h:SuM w P B sb pv X c V)(hb:Below w.heap.size w w0):InvY w0 P B sb pv V X c w0:=
 ⟨V,h.keep hb,aBD.refl _ _,fun b hb=>.inl hb⟩
theorem InvY.from{w w0 wx:World}{P:Nat->Prop}{B sb:Nat}{pv:Value}{X:Su}{c:Nat}{V:Sv}(h:InvY w0 P B sb pv V X c wx)(hb:Below w.heap.size w w0):InvY w P B sb pv V X c wx:=by
 obtain⟨V1,h1,h2,h3⟩:=h;exact⟨V1,h1,(aBD.of_below (O:=fun b=>V.fp b∨b=sb) hb).trans h2 (fun _ _ h=>h) fun _ _ h=>h,fun b hb2=>(h3 b hb2).imp id fun h=>Nat.le_trans hb.size h⟩
theorem InvY.comp{w0 w1 wx:World}{P:Nat->Prop}{B sb:Nat}{pv:Value}{X:Su}{c:Nat}{V V1:Sv}(h2:aBD (fun b=>V.fp b∨b=sb) w0 w1)(h3:∀b,V1.fp b->V.fp b∨w0.heap.size<=b)(h:InvY w1 P B sb pv V1 X c wx):InvY w0 P B sb pv V X c wx:=by
 obtain⟨V2,q1,q2,q3⟩:=h;refine⟨V2,q1,h2.trans q2 (fun _ _ h=>h) fun b hb h=>?_,fun b hb=>?_⟩
 ·rcases h with h| h
  ·rcases h3 b h with h4| h4
   ·exact .inl h4
   ·omega
  ·exact .inr h
 ·rcases q3 b hb with h| h
  ·exact h3 b h
  ·exact .inr (Nat.le_trans h2.size h)
theorem SuM.said{w:World}{P:Nat->Prop}{B sb:Nat}{pv:Value}{X:Su}{c:Nat}{V:Sv}(h:SuM w P B sb pv X c V)(hc:c<=100000)(nm n:ByteArray):∃(v:Value),(∀W,Below w.heap.size w W->(Instr.lookup 139 (.map (some V.m3)) (fk nm n) false).run Tryz.prog W=.ok v W)∧((X.sd nm n=[]∧v=.slice none 0 0)∨(0<(X.sd nm n).length∧∃g cap,v=.slice (some ⟨g,0,none⟩) (X.sd nm n).length cap∧V.f3 g∧w.ownsRow B 80 8 (.slice (some ⟨g,0,none⟩) (X.sd nm n).length cap) (X.sd nm n).length (V.g3 (fk nm n)))):=by
 obtain⟨G,hO,hG⟩:=h.l.l3.map;obtain⟨L,h1,h2,h3⟩:=hG.found (by decide) (fk nm n)
 have h4:=h.l.e3 nm n;refine⟨(G (fk nm n)).getD (.slice none 0 0),fun W hW=>?_,?_⟩
 ·have:=(hO.of_block (hW.block V.m3 h.l.l3.mlt.2)).lookG false (keyF W) Tryz.underlying139 (aH3 W) (x:=fk nm n) ⟨_,_,rfl⟩;simpa using this
 ·rcases h2 with⟨e1,e2⟩| ⟨e1,e2,g,cap,e3⟩
  ·left;have h5:=h4.1;rw[e1] at h5;refine⟨List.length_eq_zero_iff.1 (by simp at h5;omega),e2⟩
  ·right;have h5:=h1.1;rw[h4.1] at h5;have hL:L=(X.sd nm n).length:=by omega
   subst hL;rw[e3] at h1 h3;exact⟨e2,g,cap,e3,h3 g rfl,h1⟩
set_option maxRecDepth 20000 in
set_option maxHeartbeats 6400000 in
theorem aTO(t:T)(i:Nat)(w:World)(P:Nat->Prop)(B sb:Nat)(pv:Value)(X:Su)(c:Nat)(V:Sv)(v:Value)(h:SuM w P B sb pv X c V)(hT:TRep w P t v)(hc:c+3*t.fields.length<=50000)(hi:i<=1000000):
  Calls Tryz.prog 114 #[.pointer (some ⟨sb,0,none⟩),.int .i64 (i:Int),v] w fun e w'=>e=.returned (.tuple #[])∧InvY w P B sb pv V (X.look i t) (c+1+3*t.fields.length) w':=by
 obtain⟨fa,fc,rfl,hF,hfc,hs1,hs2⟩:=hT;have hsl:=h.sblt;have hlo:=h.lo;have HOUT:=aA0 h.out;have HFP:=aA0 h.l.bd;have HPA:=aA0 h.args;obtain⟨X0,hX0⟩:∃x,x=w.alloc (.cells #[.string t.name,.string t.key,.slice fa t.fields.length fc] 96):=⟨_,rfl⟩;have bX:Below w.heap.size w X0:=by rw[hX0];exact aA2 w _
 have nX:X0.heap[w.heap.size]?=some (.cells #[.string t.name,.string t.key,.slice fa t.fields.length fc] 96 (0,0)):=by rw[hX0];exact aA3 _ _ rfl
 have zX:w.heap.size<X0.heap.size:=by rw[hX0];simp
 have HI0:=aA0 (InvY.start h bX);have HBX:=aA0 bX;have HF:=aA0 hF;have HTB:Hid (∀X c wx,InvY X0 P B sb pv V X c wx->wx.heap[w.heap.size]?=some (.cells #[.string t.name,.string t.key,.slice fa t.fields.length fc] 96 (0,0))):=aA0 fun X c wx hI=>(hI.block zX (fun e=>by have:=(HFP.out _ e).2;omega) (by omega)).trans nX
 have HARG:Hid (∀X c wx,InvY X0 P B sb pv V X c wx->∀b,P b->wx.heap[b]?=w.heap[b]?):=aA0 fun X c wx hI b hb=>by
  have h1:=HPA.out b hb;exact(hI.block (by omega) (fun e=>by have:=(HFP.out _ e).1;omega) (by omega)).trans (bX.block b (by omega))
 have hk3:=hF.1;obtain⟨kX,HKX⟩:∃x,Hid (x=X.key t):=⟨_,aA0 rfl⟩;have HKE:Hid (t.key.toList.isEmpty=true->kX=X):=aA0 fun e=>by rw[HKX.out];unfold Su.key;rw[e];rfl
 have HLK:Hid (X.look i t=kX.flds i t t.fields.length):=aA0 (by rw[HKX.out];rfl)
 rw[HLK.out];obtain⟨tn,HTN⟩:∃x,Hid (x=t.name):=⟨_,aA0 rfl⟩;obtain⟨tk,HTK⟩:∃x,Hid (x=t.key):=⟨_,aA0 rfl⟩;obtain⟨tl,HTL⟩:∃x,Hid (x=t.fields.length):=⟨_,aA0 rfl⟩;rw[<-HTN.out,<-HTK.out,<-HTL.out] at HTB nX hX0 ⊢;rw[<-HTL.out] at hk3 hc;rw[<-HTK.out] at HKE;obtain⟨tb,htb⟩:∃x,x=w.heap.size:=⟨_,rfl⟩;clear h hF hfc hs1 hs2 bX;go_enter Tryz.func114,Tryz.ntmps114
 go_upto_region 1 with fail
 rw[<-hX0];clear hX0;have ht0:=(aA1 nX 0 (by simp)).1
 have ht1:=(aA1 nX 1 (by simp)).1
 clear nX;go_upto_if 11 with fail
 go_cut [] (fun wx=>Hid (InvY X0 P B sb pv V kX (c+1) wx))
 case first=>
  cases hke:tk.toList.isEmpty
  ·obtain⟨V1,h1,h2,h3⟩:=HI0.out;have HA:=aA0 (aNK (h1.keep (Below.refl _ _).drew) t (by rw[<-HTK.out];exact hke) (by omega))
   rw[<-HTN.out,<-HTK.out,<-HKX.out] at HA;have HSTEP:Hid (∀e wy,aHE X0.drew P B sb pv kX (c+1) V1 e wy->InvY X0 P B sb pv V kX (c+1) wy):=aA0 fun e wy hE=>InvY.step (h2.trans (aBD.of_below (O:=fun b=>V.fp b∨b=sb) (Below.refl _ _).drew) (fun _ _ h=>h) fun _ _ h=>h) h3 hE;have d0:X0.drew.cell? ⟨w.heap.size,0,none⟩=some (.string tn):=ht0;have d1:X0.drew.cell? ⟨w.heap.size,1,none⟩=some (.string tk):=ht1;clear h1 h2 h3;go_wp2_with fail
   go_region_held3 (fun w'=>w'.cell? ⟨w.heap.size,0,none⟩=some (.string tn)∧w'.cell? ⟨w.heap.size,1,none⟩=some (.string tk)) (go_keep)
    (first
     |(
      go_at_call 144
      refine HA.out.mono ?_;rintro e w3 hE;obtain rfl:=hE.1;have HI3:=aA0 (HSTEP.out _ _ hE);have hb3:=HTB.out _ _ _ HI3.out;have e0:=(aA1 hb3 0 (by simp)).1
      have e1:=(aA1 hb3 1 (by simp)).1
      clear hE hb3))
   go_wp2_with fail
   go_meet
   case rel=>exact HI3
  ·have HE:=HKE.out hke;go_wp2_with fail
   go_meet
   case rel=>rw[HE];exact aA0 (HI0.out.mono (by omega))
 case rest=>
 obtain⟨w1,rfl⟩:∃x,x=wc:=⟨wc,rfl⟩;have HI1:=hcut;clear ht0 ht1;have hb1:=HTB.out _ _ _ HI1.out;have e2:=(aA1 hb1 2 (by simp)).1
 simp only[List.getElem_toArray,List.getElem_cons_zero,List.getElem_cons_succ] at e2;clear hb1 hcut;go_wp2_with fail
 clear e2;go_loopw [23] (fun k wr=>∃l:Nat,l<=tl∧k=.int .i64 l∧Hid (InvY X0 P B sb pv V (kX.flds i t l) (c+1+3*l) wr)) (fun k _=>tl- (intOf k).toNat)
 case atStart=>exact⟨0,Nat.zero_le _,rfl,HI1⟩
 case round=>
 obtain⟨l,hl,rfl,HI2⟩:=hrel;obtain⟨w1,rfl⟩:∃x,x=wr:=⟨wr,rfl⟩;by_cases hlt:l<tl
 ·have hli:(l:Int)<(tl:Int):=by omega
  obtain⟨-,C,hA,hr⟩:=HF.out;obtain⟨fb,fo,rfl,hfb,hcf⟩:=hA (by rw[<-HTL.out];omega)
  have hfr:=hr l (by rw[<-HTL.out];exact hlt)
  have hq:=hfr;obtain⟨na,nc,he,-⟩:=hfr;simp only[Value.agg.injEq,Array.mk.injEq,List.cons.injEq,and_true] at he;obtain⟨q0,q1,q2,q3,q4,q5,q6,q7⟩:=he;have hAb:=HARG.out _ _ _ HI2.out;have hcl:∀j,j<8->w1.cell? ⟨fb,fo+l*8+j,none⟩=some (C l j):=fun j hj=>(World.cell?_of_block (a:=⟨fb,fo+l*8+j,none⟩) (hAb fb hfb)).trans (hcf l (by rw[<-HTL.out];exact hlt) j hj)
  have x0:=hcl 0 (by omega)
  have x1:=hcl 1 (by omega)
  have x2:=hcl 2 (by omega)
  have x3:=hcl 3 (by omega)
  have x4:=hcl 4 (by omega)
  have x5:=hcl 5 (by omega)
  have x6:=hcl 6 (by omega)
  have x7:=hcl 7 (by omega)
  rw[q0,q1,q2,q3,q4,q5,q6,q7] at hq;rw[q0,Nat.add_zero] at x0;rw[q1] at x1;rw[q2] at x2;rw[q3] at x3;rw[q4] at x4;rw[q5] at x5;rw[q6] at x6;rw[q7] at x7;clear q0 q1 q2 q3 q4 q5 q6 q7 hcl hcf hA hr hAb;have HSUC:Hid (kX.flds i t (l+1)=(kX.flds i t l).fld i t.name (fth t.fields l)):=aA0 rfl;rw[<-HTN.out] at HSUC;obtain⟨Y,HY⟩:∃x,Hid (x=kX.flds i t l):=⟨_,aA0 rfl⟩;rw[<-HY.out] at HSUC HI2;generalize fth t.fields l=f at*;have HFR:=aA0 hq;obtain⟨fnm,HFN⟩:∃x,Hid (x=f.name):=⟨_,aA0 rfl⟩;obtain⟨ff,HFF⟩:∃x,Hid (x=f.far):=⟨_,aA0 rfl⟩;obtain⟨nl,HNL⟩:∃x,Hid (x=f.needs.length):=⟨_,aA0 rfl⟩;rw[<-HFN.out] at x0;rw[<-HFF.out] at x4;rw[<-HNL.out] at x7;have hb1:=HTB.out _ _ _ HI2.out;have zI:=(InvY.size HI2.out);obtain⟨V1,h1,h2,h3⟩:=HI2.out;have HH2:=aA0 h2;have HH3:=aA0 h3;have HFP1:=aA0 h1.l.bd;have HOUT1:=aA0 h1.out;have hw1:=h1.sblt;have b2:=aA6 w1 (.cells #[.string fnm,.string f.of,.bool f.list,.bool f.must,.bool ff,.bool f.hidden,.bool f.shared,.slice na nl nc] 80) (.cells #[.string tn,.string fnm] 153);have nF:((w1.alloc (.cells #[.string fnm,.string f.of,.bool f.list,.bool f.must,.bool ff,.bool f.hidden,.bool f.shared,.slice na nl nc] 80)).alloc (.cells #[.string tn,.string fnm] 153)).heap[w1.heap.size]?=some (.cells #[.string fnm,.string f.of,.bool f.list,.bool f.must,.bool ff,.bool f.hidden,.bool f.shared,.slice na nl nc] 80 (0,0)):=((aA2 _ _).block w1.heap.size (by simp)).trans (aA3 _ _ rfl)
  have nK:((w1.alloc (.cells #[.string fnm,.string f.of,.bool f.list,.bool f.must,.bool ff,.bool f.hidden,.bool f.shared,.slice na nl nc] 80)).alloc (.cells #[.string tn,.string fnm] 153)).heap[w1.heap.size+1]?=some (.cells #[.string tn,.string fnm] 153 (0,0)):=aA3 _ _ (by simp)
  have zK:w1.heap.size+1<((w1.alloc (.cells #[.string fnm,.string f.of,.bool f.list,.bool f.must,.bool ff,.bool f.hidden,.bool f.shared,.slice na nl nc] 80)).alloc (.cells #[.string tn,.string fnm] 153)).heap.size:=by simp
  have y0:=(aA1 ((aA2 w1 (.cells #[.string fnm,.string f.of,.bool f.list,.bool f.must,.bool ff,.bool f.hidden,.bool f.shared,.slice na nl nc] 80)).block w.heap.size (by omega) |>.trans hb1) 0 (by simp)).1
  simp only[List.getElem_toArray,List.getElem_cons_zero] at y0;go_upto_region 7 with fail
  generalize ((w1.alloc (.cells #[.string fnm,.string f.of,.bool f.list,.bool f.must,.bool ff,.bool f.hidden,.bool f.shared,.slice na nl nc] 80)).alloc (.cells #[.string tn,.string fnm] 153))=w2 at*;have HB2:=aA0 b2;have HB1:=aA0 hb1;have HIS:=aA0 (InvY.start h1 b2);obtain⟨pf,hpf⟩:∃x,x=w1.heap.size:=⟨_,rfl⟩;obtain⟨kb,hkb⟩:∃x,x=w1.heap.size+1:=⟨_,rfl⟩;rw[<-hkb] at nK zK ⊢;rw[<-hpf] at nF ⊢;have HCELL:Hid (∀Y c wx,InvY w2 P B sb pv V1 Y c wx->(wx.cell? ⟨kb,0,none⟩=some (.string tn)∧wx.cell? ⟨kb,1,none⟩=some (.string fnm))∧(wx.cell? ⟨pf,0,none⟩=some (.string fnm)∧wx.cell? ⟨pf,1,none⟩=some (.string f.of)∧wx.cell? ⟨pf,2,none⟩=some (.bool f.list)∧wx.cell? ⟨pf,3,none⟩=some (.bool f.must)∧wx.cell? ⟨pf,4,none⟩=some (.bool ff)∧wx.cell? ⟨pf,5,none⟩=some (.bool f.hidden)∧wx.cell? ⟨pf,6,none⟩=some (.bool f.shared)∧wx.cell? ⟨pf,7,none⟩=some (.slice na nl nc))∧wx.cell? ⟨w.heap.size,0,none⟩=some (.string tn)):=aA0 fun Y c wx hI=>by
   have hk:=(hI.block (b:=kb) (by omega) (fun e=>by have:=(HFP1.out _ e).2;omega) (by omega)).trans nK
   have hf:=(hI.block (b:=pf) (by omega) (fun e=>by have:=(HFP1.out _ e).2;omega) (by omega)).trans nF
   have ht:=(hI.block (b:=w.heap.size) (by omega) (fun e=>by
    rcases HH3.out _ e with h| h
    ·have:=(HFP.out _ h).2;omega
    ·omega) (by omega)).trans ((HB2.out.block w.heap.size (by omega)).trans HB1.out)
   exact⟨⟨(aA1 hk 0 (by simp)).1,(aA1 hk 1 (by simp)).1⟩,⟨(aA1 hf 0 (by simp)).1,(aA1 hf 1 (by simp)).1,(aA1 hf 2 (by simp)).1,(aA1 hf 3 (by simp)).1,(aA1 hf 4 (by simp)).1,(aA1 hf 5 (by simp)).1,(aA1 hf 6 (by simp)).1,(aA1 hf 7 (by simp)).1⟩,(aA1 ht 0 (by simp)).1⟩
  have HARG2:Hid (∀Y c wx,InvY w2 P B sb pv V1 Y c wx->∀b,P b->wx.heap[b]?=w.heap[b]?):=aA0 fun Y c wx hI b hb=>by
   have h1:=HPA.out b hb;exact(hI.block (b:=b) (by omega) (fun e=>by have:=(HFP1.out _ e).1;omega) (by omega)).trans ((HB2.out.block b (by omega)).trans (HARG.out _ _ _ HI2.out b hb))
  have HCOMP:Hid (∀Y c wx,InvY w2 P B sb pv V1 Y c wx->InvY X0 P B sb pv V Y c wx):=aA0 fun Y c wx hI=>InvY.comp HH2.out HH3.out (hI.from HB2.out);have h9:=h1.keep b2;obtain⟨v,hlk0,hv⟩:=h9.said (by omega) tn fnm
  obtain⟨m3,hm3⟩:∃x,Hid (x=V1.m3):=⟨_,aA0 rfl⟩;rw[<-hm3.out] at hlk0;have HLK:=aA0 hlk0;have HS7:Hid (∀W,Below w2.heap.size w2 W->W.cell? ⟨sb,6,none⟩=some (.map (some m3))∧W.cell? ⟨kb,0,none⟩=some (.string tn)∧W.cell? ⟨kb,1,none⟩=some (.string fnm)):=aA0 fun W hW=>by
   have hI:=HIS.out.below hW;refine⟨?_,(HCELL.out _ _ _ hI).1⟩;rw[hm3.out];exact(aCW ((hW.block sb h9.sblt).trans h9.box) (by rfl)).1
  have hv2:(Y.sd tn fnm=[]∧v=.slice none 0 0)∨(0<(Y.sd tn fnm).length∧∃g cap,v=.slice (some ⟨g,0,none⟩) (Y.sd tn fnm).length cap):=hv.imp id fun h=>⟨h.1,by obtain⟨g,cap,h2,-⟩:=h.2;exact⟨g,cap,h2⟩⟩
  obtain⟨L,HL⟩:∃x,Hid (x=(Y.sd tn fnm).length):=⟨_,aA0 rfl⟩;rw[<-HL.out] at hv2;obtain⟨Y1,HY1⟩:∃x,Hid (x=if L=0 then Y.fnm tn fnm else Y):=⟨_,aA0 rfl⟩
  have HFIN:Hid (kX.flds i t (l+1)=if f.far=true then Y1.fsd tn f else(Y1.fsd tn f).fow i tn fnm):=aA0 (by rw[HSUC.out,aRX,HY1.out,HFN.out,HL.out,HFN.out])
  clear h1 h2 h3 b2 hb1 y0 x0 x1 x2 x3 x4 x5 x6 x7 h9 hlk0 hv HB1 nK nF hq;clear hkb hpf zK;rcases hv2 with⟨hsd,rfl⟩| ⟨hL,g,cap,rfl⟩
  case' inl=>
   have HY2:Hid (Y1=Y.fnm tn fnm):=aA0 (by rw[HY1.out,if_pos (by rw[HL.out,hsd];rfl)])
   clear hsd;refine wp_region_held_drew (S:=(fun w'=>w'.cell? ⟨sb,6,none⟩=some (.map (some m3))∧w'.cell? ⟨kb,0,none⟩=some (.string tn)∧w'.cell? ⟨kb,1,none⟩=some (.string fnm))) (by kernel_rfl) (HS7.out _ (Below.refl _ _).drew) (fun hHeld=>?_)
   have bD:Below w2.heap.size w2 w2.drew:=(Below.refl _ _).drew;generalize w2.drew=wD at*;refine tkH 0 hHeld ?_;refine tkH 1 hHeld ?_;refine tkH 2 hHeld ?_;refine tkH 3 hHeld ?_;refine tkH 4 hHeld ?_;refine tkH 5 hHeld ?_;refine rdyH [6] ?_;refine rcH (fun K hK=>?_) AllReadyH.nil;have hlk:=HLK.out wD bD;simp only[fk] at hlk;go_simp
   clear hlk;refine hK.out _ _ (HS7.out _ bD) (fun hHeld=>?_);clear hK K;try simp only[Act.put,sIA,sI0,sIS]
   refine tkH 7 hHeld ?_;refine tkH 8 hHeld ?_;refine wpAnyH_done (by kernel_rfl) ?_ _
   go_wp2_with fail
   have HID:=aA0 (HIS.out.below bD);obtain⟨Vd,d1,d2,d3⟩:=HID.out;have HA:=aA0 (aNC (d1.keep (Below.refl _ _).drew) tn fnm (by omega))
   have HSTEP:Hid (∀e wy,aHE wD.drew P B sb pv (Y.fnm tn fnm) (c+1+3*l+1) Vd e wy->InvY w2 P B sb pv V1 (Y.fnm tn fnm) (c+1+3*l+1) wy):=aA0 fun e wy hE=>InvY.step (d2.trans (aBD.of_below (O:=fun b=>V1.fp b∨b=sb) (Below.refl _ _).drew) (fun _ _ h=>h) fun _ _ h=>h) d3 hE;have hd0:=HCELL.out _ _ _ (HID.out.below (Below.refl _ _).drew);obtain⟨-,⟨g0,-⟩,g1⟩:=hd0;clear d1 d2 d3 bD;go_region_held3 (fun w'=>w'.cell? ⟨w.heap.size,0,none⟩=some (.string tn)∧w'.cell? ⟨pf,0,none⟩=some (.string fnm)) (go_keep)
    (first
     |(
      go_at_call 144
      refine HA.out.mono ?_;rintro e w3 hE;obtain rfl:=hE.1;have HI3:=aA0 (HSTEP.out _ _ hE);obtain⟨-,⟨g0,-⟩,g1⟩:=HCELL.out _ _ _ HI3.out;clear hE))
   rw[<-HY2.out] at HI3;clear g0 g1 HA HSTEP HID HY2;go_wp2_with fail
  case' inr=>
   have hL0:¬(L:Int)=0:=by omega
   have HY2:Hid (Y1=Y):=aA0 (by rw[HY1.out,if_neg (by omega)])
   refine wp_region_held_drew (S:=(fun w'=>w'.cell? ⟨sb,6,none⟩=some (.map (some m3))∧w'.cell? ⟨kb,0,none⟩=some (.string tn)∧w'.cell? ⟨kb,1,none⟩=some (.string fnm))) (by kernel_rfl) (HS7.out _ (Below.refl _ _).drew) (fun hHeld=>?_)
   have bD:Below w2.heap.size w2 w2.drew:=(Below.refl _ _).drew;generalize w2.drew=wD at*;refine tkH 0 hHeld ?_;refine tkH 1 hHeld ?_;refine tkH 2 hHeld ?_;refine tkH 3 hHeld ?_;refine tkH 4 hHeld ?_;refine tkH 5 hHeld ?_;refine rdyH [6] ?_;refine rcH (fun K hK=>?_) AllReadyH.nil;have hlk:=HLK.out wD bD;simp only[fk] at hlk;go_simp
   clear hlk;refine hK.out _ _ (HS7.out _ bD) (fun hHeld=>?_);clear hK K;try simp only[Act.put,sIA,sI0,sIS]
   refine tkH 7 hHeld ?_;refine tkH 8 hHeld ?_;refine wpAnyH_done (by kernel_rfl) ?_ _
   go_wp2_with fail
   obtain⟨w3,hw3⟩:∃x,x=wD:=⟨_,rfl⟩;have HI3:Hid (InvY w2 P B sb pv V1 Y1 (c+1+3*l+1) w3):=aA0 (by rw[HY2.out,hw3];exact(HIS.out.below bD).mono (by omega))
   rw[<-hw3];clear hL0 HY2 bD hw3 hL
  all_goals
   obtain⟨V3,d1,d2,d3⟩:=HI3.out;have hc3:c+1+3*l+1<=100000:=by omega
   have HFR3:Hid (FRep w3.drew P f (.agg (fcl f na nc).toArray)):=aA0 (by
    have h:=HFR.out.mono (w':=w3) fun b hb=>HARG2.out _ _ _ HI3.out b hb;exact h)
   have HA:=aA0 (aL9 (d1.keep (Below.refl _ _).drew) tn f na nc HFR3.out hc3);rw[<-HFN.out,<-HFF.out,<-HNL.out] at HA;have HSTEP:Hid (∀e wy,aHE w3.drew P B sb pv (Y1.fsd tn f) (c+1+3*l+1+1) V3 e wy->InvY w2 P B sb pv V1 (Y1.fsd tn f) (c+1+3*l+1+1) wy):=aA0 fun e wy hE=>InvY.step (d2.trans (aBD.of_below (O:=fun b=>V1.fp b∨b=sb) (Below.refl _ _).drew) (fun _ _ h=>h) fun _ _ h=>h) d3 hE;obtain⟨⟨k0,k1⟩,⟨g0,g1,g2,g3,g4,g5,g6,g7⟩,-⟩:=HCELL.out _ _ _ (HI3.out.below (Below.refl _ _).drew);clear d1 d2 d3;go_region_held3 (fun w'=>w'.cell? ⟨kb,0,none⟩=some (.string tn)∧w'.cell? ⟨kb,1,none⟩=some (.string fnm)∧w'.cell? ⟨pf,0,none⟩=some (.string fnm)∧w'.cell? ⟨pf,1,none⟩=some (.string f.of)∧w'.cell? ⟨pf,2,none⟩=some (.bool f.list)∧w'.cell? ⟨pf,3,none⟩=some (.bool f.must)∧w'.cell? ⟨pf,4,none⟩=some (.bool ff)∧w'.cell? ⟨pf,5,none⟩=some (.bool f.hidden)∧w'.cell? ⟨pf,6,none⟩=some (.bool f.shared)∧w'.cell? ⟨pf,7,none⟩=some (.slice na nl nc)) (go_keep)
    (first
     |(
      go_at_call 145
      refine HA.out.mono ?_;rintro e w4 hE;obtain rfl:=hE.1;have HI4:=aA0 (HSTEP.out _ _ hE);obtain⟨⟨k0,k1⟩,⟨g0,g1,g2,g3,g4,g5,g6,g7⟩,-⟩:=HCELL.out _ _ _ HI4.out;clear hE))
   clear g0 g1 g2 g3 g5 g6 g7 k0 k1 HA HSTEP;cases ff
   ·-- somebody knows it
    have hff:f.far=false:=HFF.out.symm;have HFIN2:Hid (kX.flds i t (l+1)=(Y1.fsd tn f).fow i tn fnm):=aA0 (by rw[HFIN.out,hff];rfl)
    go_wp2_with fail
    obtain⟨V4,d1,d2,d3⟩:=HI4.out;have HA:=aA0 (aLC (d1.keep (Below.refl _ _).drew) tn fnm i (by omega))
    have HSTEP:Hid (∀e wy,aHE w4.drew P B sb pv ((Y1.fsd tn f).fow i tn fnm) (c+1+3*l+1+1+1) V4 e wy->InvY w2 P B sb pv V1 ((Y1.fsd tn f).fow i tn fnm) (c+1+3*l+1+1+1) wy):=aA0 fun e wy hE=>InvY.step (d2.trans (aBD.of_below (O:=fun b=>V1.fp b∨b=sb) (Below.refl _ _).drew) (fun _ _ h=>h) fun _ _ h=>h) d3 hE;obtain⟨⟨k0,k1⟩,-⟩:=HCELL.out _ _ _ (HI4.out.below (Below.refl _ _).drew);clear d1 d2 d3 g4;go_region_held3 (fun w'=>w'.cell? ⟨kb,0,none⟩=some (.string tn)∧w'.cell? ⟨kb,1,none⟩=some (.string fnm)) (go_keep)
     (first
      |(
       go_at_call 146
       refine HA.out.mono ?_;rintro e w5 hE;obtain rfl:=hE.1;have HI5:=aA0 (HSTEP.out _ _ hE);obtain⟨⟨k0,k1⟩,-⟩:=HCELL.out _ _ _ HI5.out;clear hE))
    clear k0 k1 HA HSTEP;go_wp2_with fail
    go_roundw
    case rel=>exact⟨l+1,by omega,by go_num,aA0 (by rw[HFIN2.out];exact(HCOMP.out _ _ _ HI5.out).mono (by omega))⟩
    case measure=>simp[intOf];omega
   ·have hff:f.far=true:=HFF.out.symm;have HFIN2:Hid (kX.flds i t (l+1)=Y1.fsd tn f):=aA0 (by rw[HFIN.out,hff];rfl)
    go_wp2_with fail
    go_roundw
    case rel=>exact⟨l+1,by omega,by go_num,aA0 (by rw[HFIN2.out];exact(HCOMP.out _ _ _ HI4.out).mono (by omega))⟩
    case measure=>simp[intOf];omega
 ·have hli:¬(l:Int)<(tl:Int):=by omega
  have e:l=tl:=by omega
  subst e;have HFIN:=aA0 (HI2.out.from HBX.out);go_wp2_with fail
  refine bodyPost_end (v:=.tuple #[]) ?res rfl ⟨rfl,HFIN.out⟩;case res=>simp[results,Tryz.results114,go_sem]
end Go.Proofs.YtcebpkeiaiiphaaGreatDoor
