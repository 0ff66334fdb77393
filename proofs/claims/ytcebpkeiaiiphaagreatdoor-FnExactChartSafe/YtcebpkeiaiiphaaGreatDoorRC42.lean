import Derived.Test.YtcebpkeiaiiphaaGreatDoorRC40
import Derived.Test.YtcebpkeiaiiphaaGreatDoorRC39
set_option linter.unusedSimpArgs false
set_option linter.unusedVariables false
namespace Go.Proofs.YtcebpkeiaiiphaaGreatDoor
open Go.RowKit Go.Maps
theorem aS1{p:Pt}(h:okP p=true){nm n:ByteArray}(hs:sayB p nm n=true):(sayF p nm n).needs.length<=1000000:=by
 obtain⟨k,hk,hk1,-⟩:=aC8 (aIN hs);have ht:=aDT hk;unfold sayB at hs;rw[ht,decide_eq_true_eq] at hs;obtain⟨l,hl,hl1,-⟩:=aDC hs;have hf:=aHA hl;unfold sayF;rw[ht,hf];have h0:=(aKE p h).1;have e1:szP p=p.name.size+(p.types.length+aB1 p.types p.types.length):=rfl;have h1:=aFK p.types k p.types.length hk1;have e2:szT (tth p.types k)=(tth p.types k).name.size+(tth p.types k).key.size+((tth p.types k).fields.length+aBE (tth p.types k).fields (tth p.types k).fields.length):=rfl;have h2:=aGS (tth p.types k).fields l (tth p.types k).fields.length hl1;have h3:szF (fth (tth p.types k).fields l)=(fth (tth p.types k).fields l).name.size+(fth (tth p.types k).fields l).of.size+((fth (tth p.types k).fields l).needs.length+_):=rfl;omega
theorem aT4{ps:List Pt}(h:∀i,i<ps.length->okP (pth ps i)=true):(suM ps).tn.map (outX (suM ps))=(allM ps).types:=by
 rw[<-aRS h,aEG];refine List.map_congr_left fun nm _=>?_;rw[outX,outT,aJB,<-((aHI h ps.length (Nat.le_refl _) nm nm).2.2)];rfl
theorem aQO{ps:List Pt}(h:∀i,i<ps.length->okP (pth ps i)=true)(nm n:ByteArray)(i:Nat)(hi:i<((suM ps).sd nm n).length):(fth ((suM ps).sd nm n) i).needs.length<=1000000:=by
 have e:(suM ps).sd nm n=sdTo ps nm n ps.length:=(aHI h ps.length (Nat.le_refl _) nm n).1;rw[e] at hi ⊢;have h1:=aLP ps nm n (fun f=>decide (f.needs.length<=1000000)) ps.length;have h2:(sdTo ps nm n ps.length).all (fun f=>decide (f.needs.length<=1000000))=true:=by
  rw[h1,aBK];intro j hj;cases hs:sayB (pth ps j) nm n
  ·rfl
  ·simpa using aS1 (h j hj) hs
 have h3:=List.all_eq_true.1 h2 (fth (sdTo ps nm n ps.length) i) (by
  have e:fth (sdTo ps nm n ps.length) i=(sdTo ps nm n ps.length)[i]:=by simp[fth,List.getD_eq_getElem?_getD,hi]
  rw[e];exact List.getElem_mem hi)
 simpa using h3
theorem aPE(ps:List Pt)(w:World)(B0 B:Nat)(c:Nat)(V:Sv)(a:Option Addr)(pc:Nat)(h:SuL w (·<B0) B (suM ps) c V)(hP:∀b,b<B0->b<B)(hB:B<=w.heap.size)(hc:c<=100000)(hl:ps.length<=4)(hok:∀i,i<ps.length->okP (pth ps i)=true):
  Calls Tryz.prog 83 #[.agg (V.cells (.slice a ps.length pc))] w fun e w'=>∃ov,e=.returned (.agg #[.string ⟨#[97]⟩,ov])∧Below w.heap.size w w'∧PRep w' (fun b=>w.heap.size<=b∧b<w'.heap.size) (allM ps) (.agg #[.string ⟨#[97]⟩,ov]):=by
 have hso:SuOk (suM ps):=aNV ps ps.length;have hx:=aT4 hok;have hsz:=aHH ps hl hok;have H:=aUF h hP hB hc a ps.length pc (fun nm n hn=>List.length_pos_iff.2 ((hso.fmem nm n).1 hn)) (aQO hok) (fun nm hnm=>by
  have hm:outX (suM ps) nm∈ (allM ps).types:=by rw[<-hx];exact List.mem_map_of_mem hnm
  obtain⟨i,hi,e⟩:=List.getElem_of_mem hm;have e2:tth (allM ps).types i=outX (suM ps) nm:=by rw[<-e];simp[tth,List.getD_eq_getElem?_getD,hi]
  have h1:=aOO (allM ps) i hi hsz;rw[e2] at h1;have h2:szT (outX (suM ps) nm)=nm.size+(aGP ((suM ps).ky nm)).size+_:=rfl;unfold maxLen;omega)
 rw[hx] at H;exact H
attribute [local go_sem] Oper.semAt_some
set_option maxRecDepth 20000 in
set_option maxHeartbeats 6400000 in
theorem aG2(ps:List Pt)(w:World)(B0 B:Nat)(c:Nat)(V:Sv)(a:Option Addr)(pc:Nat)(h:SuL w (·<B0) B (suM ps) c V)(hP:∀b,b<B0->b<B)(hB:B<=w.heap.size)(hc:c<=100000)(hR:aAP w (·<B0) ps a)(hl:ps.length<=4)(hok:∀i,i<ps.length->okP (pth ps i)=true)(hG:GErr w):
  Calls Tryz.prog 82 #[.agg (V.cells (.slice a ps.length pc))] w fun e w'=>aD1 (aE5 ps) e∧Below w.heap.size w w':=by
 have HSD:=aA0 (fun nm n=>aHI hok ps.length (Nat.le_refl _) nm n);obtain⟨p1,r1,k1,p2,r2,k2,p3,r3,k3,p4,r4,k4,HV⟩:=h.form (.slice a ps.length pc);have HFB:Hid (∀nm f,badX (suM ps) nm f=aAS ps nm f):=aA0 fun nm f=>by
  have e1:∀n,(suM ps).sd nm n=sdTo ps nm n ps.length:=fun n=>(HSD.out nm n).1;have e2:∀n,(suM ps).ow nm n=aAW ps nm n:=fun n=>(HSD.out nm n).2.1;have e3:(suM ps).ky nm=kyTo ps nm ps.length:=(HSD.out nm nm).2.2;unfold badX aAS;simp only[e1,e2,e3,<-aJB]
 have HCF:=aA0 (fun W (hW:Below w.heap.size w W) nm f na nc (hS:Strs W (·<W.heap.size) f.needs na)=>aK7 (h.under hP hB hW) hP (Nat.le_trans hB hW.size) hc (hG.on hW) a ps.length pc nm f na nc hS);have HR:=aA0 hR;have HBL:Hid (B0<=w.heap.size):=aA0 (by
  by_cases e:B0=0
  ·omega
  ·have:=hP (B0- 1) (by omega);omega)
 have HOK:=aA0 hok;have hz4:=hR.1;have HAT:Hid ((∀i,i<ps.length->aA7 (fun k=>aA7 (fun l=>!aAS ps (tth (pth ps i).types k).name (fth (tth (pth ps i).types k).fields l)) (tth (pth ps i).types k).fields.length) (pth ps i).types.length=true)->aE5 ps=true):=aA0 fun h=>by
  unfold aE5;rw[aBK];exact h
 have HAF:Hid (∀i,i<ps.length->∀k,k<(pth ps i).types.length->(fun k=>aA7 (fun l=>!aAS ps (tth (pth ps i).types k).name (fth (tth (pth ps i).types k).fields l)) (tth (pth ps i).types k).fields.length) k=false->aE5 ps=false):=aA0 fun i hi k hk h=>by
  unfold aE5;exact aAJ hi (aAJ hk h)
 obtain⟨res,hres⟩:∃b,b=aE5 ps:=⟨_,rfl⟩;rw[<-hres] at HAT HAF ⊢;obtain⟨pl,HPL⟩:∃x,Hid (x=ps.length):=⟨_,aA0 rfl⟩;rw[HV] at HCF ⊢;rw[<-HPL.out] at hl hz4 HCF ⊢;have HGG:=aA0 hG;clear h HV hR hok hres hG;have b0:=aA2 w (.cells #[.slice a pl pc,.slice p1 r1 k1,.map (some V.m1),.slice p2 r2 k2,.map (some V.m2),.slice p3 r3 k3,.map (some V.m3),.slice p4 r4 k4,.map (some V.m4)] 146);have n0:=aA3 (w:=w) (N:=w.heap.size) #[.slice a pl pc,.slice p1 r1 k1,.map (some V.m1),.slice p2 r2 k2,.map (some V.m2),.slice p3 r3 k3,.map (some V.m3),.slice p4 r4 k4,.map (some V.m4)] 146 rfl;have z0:(w.alloc (.cells #[.slice a pl pc,.slice p1 r1 k1,.map (some V.m1),.slice p2 r2 k2,.map (some V.m2),.slice p3 r3 k3,.map (some V.m3),.slice p4 r4 k4,.map (some V.m4)] 146)).heap.size=w.heap.size+1:=by simp
 go_enter Tryz.func82,Tryz.ntmps82
 go_upto_region 1 with fail
 generalize w.alloc (.cells #[.slice a pl pc,.slice p1 r1 k1,.map (some V.m1),.slice p2 r2 k2,.map (some V.m2),.slice p3 r3 k3,.map (some V.m3),.slice p4 r4 k4,.map (some V.m4)] 146)=w0 at*;have HBW:Hid (∀W,Below w0.heap.size w0 W->Below w.heap.size w W):=aA0 fun W hW=>b0.trans (hW.mono (by omega))
 have HCS:Hid (∀W,Below w0.heap.size w0 W->W.cell? ⟨w.heap.size,0,none⟩=some (.slice a pl pc)∧W.cell? ⟨w.heap.size,1,none⟩=some (.slice p1 r1 k1)∧W.cell? ⟨w.heap.size,2,none⟩=some (.map (some V.m1))∧W.cell? ⟨w.heap.size,3,none⟩=some (.slice p2 r2 k2)∧W.cell? ⟨w.heap.size,4,none⟩=some (.map (some V.m2))∧W.cell? ⟨w.heap.size,5,none⟩=some (.slice p3 r3 k3)∧W.cell? ⟨w.heap.size,6,none⟩=some (.map (some V.m3))∧W.cell? ⟨w.heap.size,7,none⟩=some (.slice p4 r4 k4)∧W.cell? ⟨w.heap.size,8,none⟩=some (.map (some V.m4))):=aA0 fun W hW=>by
  have h:=(hW.block w.heap.size (by omega)).trans n0
  exact⟨(aA1 h 0 (by simp)).1,(aA1 h 1 (by simp)).1,(aA1 h 2 (by simp)).1,(aA1 h 3 (by simp)).1,(aA1 h 4 (by simp)).1,(aA1 h 5 (by simp)).1,(aA1 h 6 (by simp)).1,(aA1 h 7 (by simp)).1,(aA1 h 8 (by simp)).1⟩
 have HGE:Hid (∀W,Below w0.heap.size w0 W->GErr W):=aA0 fun W hW=>HGG.out.on (HBW.out W hW);obtain⟨s0,-⟩:=HCS.out w0 (Below.refl _ _);clear b0 n0 z0;go_wp2_with fail
 clear s0;go_loopw [13] (fun y wr=>∃i:Nat,i<=pl∧y=.int .i64 i∧Hid (Below w0.heap.size w0 wr∧∀j,j<i->aA7 (fun k=>aA7 (fun l=>!aAS ps (tth (pth ps j).types k).name (fth (tth (pth ps j).types k).fields l)) (tth (pth ps j).types k).fields.length) (pth ps j).types.length=true)) (fun y _=>pl- (intOf y).toNat)
 case atStart=>exact⟨0,Nat.zero_le _,rfl,aA0 ⟨Below.refl _ _,fun j hj=>by omega⟩⟩
 case round=>
 obtain⟨i,hi,rfl,HJ⟩:=hrel;obtain⟨w1,rfl⟩:∃x,x=wr:=⟨wr,rfl⟩;by_cases hlt:i<pl
 rotate_left
 ·have hii:¬(i:Int)<(pl:Int):=by omega
  have HE:=aA0 (HAT.out fun j hj=>HJ.out.2 j (by have:=HPL.out;omega))
  have HBE:=aA0 (HBW.out w1 HJ.out.1);go_wp2_with fail
  go_ret
  exact⟨aD1.good HE.out,HBE.out⟩
 have hii:(i:Int)<(pl:Int):=by omega
 have hip:i<ps.length:=by rw[<-HPL.out];exact hlt
 obtain⟨pb,po,ta,tc,rfl,hpB,q0,q1,hP⟩:=HR.out.at i hip;have hbw:=HBW.out w1 HJ.out.1;have hBL:=HBL.out;have c0:=(hbw.cell (p:=⟨pb,po+i*2,none⟩) (by show pb<_;omega)).trans q0
 have c1:=(hbw.cell (p:=⟨pb,po+i*2+1,none⟩) (by show pb<_;omega)).trans q1
 have HPO:=aA0 (HOK.out i hip);have hp5:=(aEB (HOK.out i hip)).2;have HT:Hid (aDA w (·<B0) (pth ps i).types ta):=aA0 (by
  obtain⟨ta',tc',e,hT,-⟩:=hP;simp only[Value.agg.injEq,Array.mk.injEq,List.cons.injEq,Value.slice.injEq,true_and,and_true] at e;obtain⟨rfl,rfl⟩:=e;exact hT)
 have HAFI:Hid (∀k,k<(pth ps i).types.length->(fun k=>aA7 (fun l=>!aAS ps (tth (pth ps i).types k).name (fth (tth (pth ps i).types k).fields l)) (tth (pth ps i).types k).fields.length) k=false->res=false):=aA0 (HAF.out i hip);have HAFT:Hid (aA7 (fun k=>aA7 (fun l=>!aAS ps (tth (pth ps i).types k).name (fth (tth (pth ps i).types k).fields l)) (tth (pth ps i).types k).fields.length) (pth ps i).types.length=true->∀j,j<i+1->aA7 (fun k=>aA7 (fun l=>!aAS ps (tth (pth ps j).types k).name (fth (tth (pth ps j).types k).fields l)) (tth (pth ps j).types k).fields.length) (pth ps j).types.length=true):=aA0 fun h j hj=>by
  by_cases e:j=i
  ·subst e;exact h
  ·exact HJ.out.2 j (by omega)
 generalize pth ps i=p at*;obtain⟨tl,HTL⟩:∃x,Hid (x=p.types.length):=⟨_,aA0 rfl⟩;rw[<-HTL.out] at c1 hp5 HAFI HAFT;have b2:=aA2 w1 (.cells #[.string p.name,.slice ta tl tc] 46);have n2:=(aA1 (aA3 (w:=w1) (N:=w1.heap.size) #[.string p.name,.slice ta tl tc] 46 rfl) 1 (by simp)).1
 simp only[List.getElem_toArray,List.getElem_cons_succ,List.getElem_cons_zero] at n2;have HJ2:Hid (Below w0.heap.size w0 (w1.alloc (.cells #[.string p.name,.slice ta tl tc] 46))):=aA0 (HJ.out.1.trans (b2.mono HJ.out.1.size));clear q0 q1 hP hbw b2;go_upto_region 4 with fail
 generalize w1.alloc (.cells #[.string p.name,.slice ta tl tc] 46)=w2 at*;go_wp2_with fail
 clear n2 c0 c1;go_loopw [21] (fun y wr=>∃k:Nat,k<=tl∧y=.int .i64 k∧Hid (Below w0.heap.size w0 wr∧∀j,j<k->(fun k=>aA7 (fun l=>!aAS ps (tth p.types k).name (fth (tth p.types k).fields l)) (tth p.types k).fields.length) j=true)) (fun y _=>tl- (intOf y).toNat)
 case atStart=>exact⟨0,Nat.zero_le _,rfl,aA0 ⟨HJ2.out,fun j hj=>by omega⟩⟩
 case round=>
 obtain⟨k,hk,rfl,HK⟩:=hrel;obtain⟨w3,rfl⟩:∃x,x=wr:=⟨wr,rfl⟩;by_cases hkl:k<tl
 rotate_left
 ·have hki:¬(k:Int)<(tl:Int):=by omega
  have HFIN:Hid (Below w0.heap.size w0 w3∧∀j,j<i+1->aA7 (fun k=>aA7 (fun l=>!aAS ps (tth (pth ps j).types k).name (fth (tth (pth ps j).types k).fields l)) (tth (pth ps j).types k).fields.length) (pth ps j).types.length=true):=aA0 ⟨HK.out.1,HAFT.out ((aBK _ _).2 fun j hj=>HK.out.2 j (by omega))⟩
  go_wp2_with fail
  exact⟨⟨i+1,by omega,by go_num,HFIN⟩,by simp[intOf];omega⟩
 have hki:(k:Int)<(tl:Int):=by omega
 have hkp:k<p.types.length:=by rw[<-HTL.out];exact hkl
 obtain⟨b,off,fa,fc,rfl,hTR,hTC⟩:=HT.out.at HBL.out k hkp;obtain⟨x0,x1,x2⟩:=hTC w3 (HBW.out w3 HK.out.1);have hf8:=(aCI (aEI HPO.out hkp)).2.1;have HQF:Hid ((aA7 (fun l=>!aAS ps (tth p.types k).name (fth (tth p.types k).fields l)) (tth p.types k).fields.length)=false->res=false):=aA0 (HAFI.out k hkl);have HQT:Hid ((aA7 (fun l=>!aAS ps (tth p.types k).name (fth (tth p.types k).fields l)) (tth p.types k).fields.length)=true->∀j,j<k+1->(fun k=>aA7 (fun l=>!aAS ps (tth p.types k).name (fth (tth p.types k).fields l)) (tth p.types k).fields.length) j=true):=aA0 fun h j hj=>by
  by_cases e:j=k
  ·subst e;exact h
  ·exact HK.out.2 j (by omega)
 have HFR:Hid (aBJ w (·<B0) (tth p.types k).fields fa):=aA0 (by
  obtain⟨fa',fc',e,hF,-⟩:=hTR;simp only[Value.agg.injEq,Array.mk.injEq,List.cons.injEq,Value.slice.injEq,true_and,and_true] at e;obtain⟨rfl,rfl⟩:=e;exact hF)
 generalize tth p.types k=t at*;obtain⟨tn,HTN⟩:∃x,Hid (x=t.name):=⟨_,aA0 rfl⟩;obtain⟨tk,HTK⟩:∃x,Hid (x=t.key):=⟨_,aA0 rfl⟩;obtain⟨fl,HFL⟩:∃x,Hid (x=t.fields.length):=⟨_,aA0 rfl⟩;rw[<-HTN.out] at x0;rw[<-HTK.out] at x1;rw[<-HFL.out] at x2 hf8;have b4:=aA2 w3 (.cells #[.string tn,.string tk,.slice fa fl fc] 96);have n4:=aA3 (w:=w3) (N:=w3.heap.size) #[.string tn,.string tk,.slice fa fl fc] 96 rfl;have z4:w3.heap.size<(w3.alloc (.cells #[.string tn,.string tk,.slice fa fl fc] 96)).heap.size:=by simp
 have z3:=HK.out.1.size;have HK4:Hid (Below w0.heap.size w0 (w3.alloc (.cells #[.string tn,.string tk,.slice fa fl fc] 96))):=aA0 (HK.out.1.trans (b4.mono z3));clear hTR hTC b4;go_upto_region 7 with fail
 generalize w3.alloc (.cells #[.string tn,.string tk,.slice fa fl fc] 96)=w4 at*;clear x0 x1 x2;have HW4:Hid (∀W,Below w4.heap.size w4 W->Below w0.heap.size w0 W∧W.cell? ⟨w3.heap.size,0,none⟩=some (.string tn)∧W.cell? ⟨w3.heap.size,1,none⟩=some (.string tk)∧W.cell? ⟨w3.heap.size,2,none⟩=some (.slice fa fl fc)):=aA0 fun W hW=>by
  have h:=(hW.block w3.heap.size z4).trans n4;exact⟨HK4.out.trans (hW.mono HK4.out.size),(aA1 h 0 (by simp)).1,(aA1 h 1 (by simp)).1,(aA1 h 2 (by simp)).1⟩
 clear n4 z4;have HB5:Hid (Below w4.heap.size w4 w4):=aA0 (Below.refl _ _);obtain⟨-,y0,y1,y2⟩:=HW4.out w4 HB5.out;obtain⟨w5,hw5⟩:∃x,x=w4:=⟨_,rfl⟩;rw[<-hw5];replace hw5:=aA0 hw5
 have HB6:Hid (Below w4.heap.size w4 w5):=aA0 (by rw[hw5.out];exact Below.refl _ _)
 rw[<-hw5.out] at y0 y1 y2;clear HB5;have HB5:=HB6;clear HB6 hw5;all_goals
  have HW5:Hid (∀W,Below w5.heap.size w5 W->Below w4.heap.size w4 W):=aA0 fun W hW=>HB5.out.trans (hW.mono HB5.out.size);have HTY:Hid ((∀l,l<fl->(fun l=>!aAS ps t.name (fth t.fields l)) l=true)->(aA7 (fun l=>!aAS ps t.name (fth t.fields l)) t.fields.length)=true):=aA0 fun h=>by
   rw[aBK,<-HFL.out];exact h
  have HTX:Hid (∀l,l<fl->(fun l=>!aAS ps t.name (fth t.fields l)) l=false->res=false):=aA0 fun l hl h=>HQF.out (by
   show(aA7 (fun l=>!aAS ps t.name (fth t.fields l)) t.fields.length)=false;rw[aAJ (n:=t.fields.length) (by rw[<-HFL.out];exact hl) h]
   )
  go_wp2_with fail
  clear y0 y1 y2;go_loopw [28] (fun y wr=>∃l:Nat,l<=fl∧y=.int .i64 l∧Hid (Below w5.heap.size w5 wr∧∀j,j<l->(fun l=>!aAS ps t.name (fth t.fields l)) j=true)) (fun y _=>fl- (intOf y).toNat)
  case atStart=>exact⟨0,Nat.zero_le _,rfl,aA0 ⟨Below.refl _ _,fun j hj=>by omega⟩⟩
  case round=>
  obtain⟨l,hl',rfl,HL⟩:=hrel;obtain⟨w6,rfl⟩:∃x,x=wr:=⟨wr,rfl⟩;by_cases hll:l<fl
  rotate_left
  ·have hli:¬(l:Int)<(fl:Int):=by omega
   have HFIN:Hid (Below w0.heap.size w0 w6∧∀j,j<k+1->(fun k=>aA7 (fun l=>!aAS ps (tth p.types k).name (fth (tth p.types k).fields l)) (tth p.types k).fields.length) j=true):=aA0 ⟨(HW4.out w6 (HW5.out w6 HL.out.1)).1,HQT.out (HTY.out fun j hj=>HL.out.2 j (by omega))⟩
   go_wp2_with fail
   exact⟨⟨k+1,by omega,by go_num,HFIN⟩,by simp[intOf];omega⟩
  have hli:(l:Int)<(fl:Int):=by omega
  obtain⟨fb,fo,na,nc,rfl,hFR,hcc⟩:=HFR.out.at HBL.out l (by rw[<-HFL.out];exact hll)
  obtain⟨x0,x1,x2,x3,x4,x5,x6,x7⟩:=hcc w6 (HBW.out w6 (HW4.out w6 (HW5.out w6 HL.out.1)).1);have HNO:Hid ((!aAS ps t.name (fth t.fields l))=false->res=false):=aA0 (HTX.out l hll);have HYES:Hid ((!aAS ps t.name (fth t.fields l))=true->∀j,j<l+1->(fun l=>!aAS ps t.name (fth t.fields l)) j=true):=aA0 fun h j hj=>by
   by_cases e:j=l
   ·subst e;exact h
   ·exact HL.out.2 j (by omega)
  have HFF:=aA0 hFR;clear hcc hFR;generalize fth t.fields l=f at*;obtain⟨nl,HNL⟩:∃x,Hid (x=f.needs.length):=⟨_,aA0 rfl⟩;rw[<-HNL.out] at x7;have b7:=aA2 w6 (.cells #[.string f.name,.string f.of,.bool f.list,.bool f.must,.bool f.far,.bool f.hidden,.bool f.shared,.slice na nl nc] 80);have n7:=aA3 (w:=w6) (N:=w6.heap.size) #[.string f.name,.string f.of,.bool f.list,.bool f.must,.bool f.far,.bool f.hidden,.bool f.shared,.slice na nl nc] 80 rfl;have HL7:Hid (Below w5.heap.size w5 (w6.alloc (.cells #[.string f.name,.string f.of,.bool f.list,.bool f.must,.bool f.far,.bool f.hidden,.bool f.shared,.slice na nl nc] 80))):=aA0 (HL.out.1.trans (b7.mono HL.out.1.size));have m0:=(aA1 n7 0 (by simp)).1
  have m1:=(aA1 n7 1 (by simp)).1
  have m2:=(aA1 n7 2 (by simp)).1
  have m3:=(aA1 n7 3 (by simp)).1
  have m4:=(aA1 n7 4 (by simp)).1
  have m5:=(aA1 n7 5 (by simp)).1
  have m6:=(aA1 n7 6 (by simp)).1
  have m7:=(aA1 n7 7 (by simp)).1
  simp only[List.getElem_toArray,List.getElem_cons_succ,List.getElem_cons_zero] at m0 m1 m2 m3 m4 m5 m6 m7;have HM0:Hid (∀W,Below (w6.alloc (.cells #[.string f.name,.string f.of,.bool f.list,.bool f.must,.bool f.far,.bool f.hidden,.bool f.shared,.slice na nl nc] 80)).heap.size (w6.alloc (.cells #[.string f.name,.string f.of,.bool f.list,.bool f.must,.bool f.far,.bool f.hidden,.bool f.shared,.slice na nl nc] 80)) W->W.cell? ⟨w6.heap.size,0,none⟩=some (.string f.name)):=aA0 fun W hW=>by
   have h:=(hW.block w6.heap.size (by simp)).trans n7
   exact(aA1 h 0 (by simp)).1
  clear b7 n7;go_upto_region 10 with fail
  generalize w6.alloc (.cells #[.string f.name,.string f.of,.bool f.list,.bool f.must,.bool f.far,.bool f.hidden,.bool f.shared,.slice na nl nc] 80)=w7 at*;have HB7:=aA0 (HW5.out w7 HL7.out);obtain⟨d0,d1,d2,d3,d4,d5,d6,d7,d8⟩:=HCS.out w7 (HW4.out w7 HB7.out).1;obtain⟨-,y0,-⟩:=HW4.out w7 HB7.out;have HCA:=aA0 (HCF.out w7 (HBW.out w7 (HW4.out w7 HB7.out).1) tn f na nc (by
   obtain⟨na',nc',e,hS,-⟩:=HFF.out;simp only[Value.agg.injEq,Array.mk.injEq,List.cons.injEq,Value.slice.injEq,true_and,and_true] at e;obtain⟨rfl,-⟩:=e;have hbw:=HBW.out w7 (HW4.out w7 HB7.out).1;have hBL:=HBL.out;exact(hS.mono fun b hb=>hbw.block b (by have hb:b<B0:=hb;omega)).sub fun b hb=>by have hb:b<B0:=hb;have:=hbw.size;show b<_;omega))
  rw[HFB.out,HTN.out,<-HNL.out,<-HTN.out] at HCA;rw[<-HTN.out] at HNO HYES;obtain⟨bad,hbad⟩:∃x,Hid (x=aAS ps tn f):=⟨_,aA0 rfl⟩;rw[<-hbad.out] at HCA;have HNO2:Hid (bad=true->res=false):=aA0 fun e=>HNO.out (by show(!aAS ps tn f)=false;rw[<-hbad.out,e];rfl)
  have HYES2:Hid (bad=false->∀j,j<l+1->(fun l=>!aAS ps t.name (fth t.fields l)) j=true):=aA0 fun e=>by
   have h1:=HYES.out (by show(!aAS ps tn f)=true;rw[<-hbad.out,e];rfl)
   rw[HTN.out] at h1;exact h1
  go_wp2_with fail
  refine HCA.out.mono ?_;rintro e w8 ⟨⟨ev,rfl,he1,he2⟩,b8⟩;have HB8:=aA0 (HL7.out.trans (b8.mono HL7.out.size));have y8:=HM0.out w8 b8;have z8:=(HW4.out w8 (HW5.out w8 HB8.out)).2.1;clear b8 d0 d1 d2 d3 d4 d5 d6 d7 d8 m0 m1 m2 m3 m4 m5 m6 m7 y0 HCA;cases bad
  ·obtain rfl:=he1 rfl;have HT:=aA0 (HYES2.out rfl);clear he1 he2;go_wp2_with fail
   go_roundw
   case rel=>exact⟨l+1,by omega,by go_num,aA0 ⟨HB8.out,HT.out⟩⟩
   case measure=>simp[intOf];omega
  ·obtain⟨T8,v8,rfl⟩:=he2 rfl;have HE:=aA0 (HNO2.out rfl);have HBE:=aA0 (HBW.out w8 (HW4.out w8 (HW5.out w8 HB8.out)).1);clear he1 he2;go_wp2_with fail
   go_ret
   exact⟨aD1.bad HE.out,HBE.out⟩
end Go.Proofs.YtcebpkeiaiiphaaGreatDoor
