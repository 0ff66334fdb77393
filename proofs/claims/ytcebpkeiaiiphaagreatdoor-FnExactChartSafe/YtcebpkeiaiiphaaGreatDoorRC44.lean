import Derived.Test.YtcebpkeiaiiphaaGreatDoorRC43
import Derived.Test.YtcebpkeiaiiphaaGreatDoorRC41
set_option linter.unusedSimpArgs false
set_option linter.unusedVariables false
namespace Go.Proofs.YtcebpkeiaiiphaaGreatDoor
open Go.RowKit Go.Maps
theorem aH1(FW:World)(tmps:Array Value)(N:Nat)(v0 v1 v2 v3 er:Value)(h2:tmps.getD 2 undef=.pointer (some ⟨N,0,none⟩))(h3:tmps.getD 3 undef=er)(d0:FW.cell? ⟨N,0,none⟩=some v0)(d1:FW.cell? ⟨N,1,none⟩=some v1)(d2:FW.cell? ⟨N,2,none⟩=some v2):
  (results Tryz.f53 tmps).run Tryz.prog FW=.ok (.tuple #[.agg #[v0,v1,v2],er]) FW:=by
 simp only[Array.getD_eq_getD_getElem?] at h2 h3;simp[results,Tryz.results53,go_sem,h2,h3,d0,d1,d2]
def aJF(ps:List Pt)(w:World)(e:Ending)(w':World):Prop:=∃ch er,e=.returned (.tuple #[ch,er])∧(∃s x1 x2 x3 y1 y2 y3,ch=.agg #[.string s,.slice x1 x2 x3,.slice y1 y2 y3])∧Below w.heap.size w w'∧(aBA ps okP=true->er=.nilIface∧CRep w' (fun b=>w.heap.size<b∧b<w'.heap.size) ⟨allM ps,ownT ps (allM ps) (allM ps).types.length⟩ ch)∧(aBA ps okP=false->∃T v,er=.iface T v)
theorem aJF.bad{ps:List Pt}{w w':World}{s:ByteArray}{x1 y1:Option Addr}{x2 x3 y2 y3:Nat}{T:TypeId}{v:Value}(h:aBA ps okP=false)(hb:Below w.heap.size w w'):aJF ps w (.returned (.tuple #[.agg #[.string s,.slice x1 x2 x3,.slice y1 y2 y3],.iface T v])) w':=⟨_,_,rfl,⟨_,_,_,_,_,_,_,rfl⟩,hb,(fun e=>by rw[h] at e;cases e),fun _=>⟨T,v,rfl⟩⟩
theorem aDM{w:World}{N:Nat}{T:TypeId}{a0 a1 a2:Value}(hb:w.heap[N]?=some (.cells #[a0,a1,a2] T (0,0)))(v0 v1 v2:Value):
  (((w.setCell ⟨N,0,none⟩ v0).setCell ⟨N,1,none⟩ v1).setCell ⟨N,2,none⟩ v2).heap[N]?=some (.cells #[v0,v1,v2] T (0,0)):=by
 simpa using aAC (aAC (aAC hb 0 v0) 1 v1) 2 v2
theorem aHT(ps:List Pt):aBA ps okP=(aDK ps&&aA7 (fun i=>aA7 (fun k=>aC7 ps (tth (pth ps i).types k)) (pth ps i).types.length) ps.length&&okP (allM ps)):=rfl
theorem aOQ{ps:List Pt}(h:aDK ps=true):ps.length<=4∧∀i,i<ps.length->okP (pth ps i)=true:=by
 unfold aDK at h;simp only[Bool.and_eq_true,decide_eq_true_eq] at h;refine⟨h.1.2,fun i hi=>?_⟩;have:=(aBK _ _).1 h.2 i hi;unfold aF3 at this;simp only[Bool.and_eq_true] at this;exact this.1
set_option maxRecDepth 20000 in
set_option maxHeartbeats 3200000 in
theorem aMB(ps:List Pt)(w:World)(B:Nat)(a:Option Addr)(c:Nat)(hc:ps.length<=c)(hR:aAP w (·<B) ps a)(hB:B<=w.heap.size)(hz:∀i,i<ps.length->szP (pth ps i)<=1048576)(hG:GErr w)(hE:aDK ps=false):
  Calls Tryz.prog 53 #[.slice a ps.length c] w (aJF ps w):=by
 have b0:=aA2 w (.cells #[.string ⟨#[]⟩,.slice none 0 0,.slice none 0 0] 49);have n0:=aA3 (w:=w) (N:=w.heap.size) #[.string ⟨#[]⟩,.slice none 0 0,.slice none 0 0] 49 rfl;have z0:w.heap.size<(w.alloc (.cells #[.string ⟨#[]⟩,.slice none 0 0,.slice none 0 0] 49)).heap.size:=by simp
 have HC:=aA0 (aEY ps _ B a c hc (hR.under (b0.mono hB)) (by omega) hz (hG.on b0))
 have HBAD:=aA0 (show aBA ps okP=false by rw[aHT,hE];rfl)
 rw[hE] at HC;obtain⟨pl,HPL⟩:∃x,Hid (x=ps.length):=⟨_,aA0 rfl⟩;rw[<-HPL.out] at HC ⊢;clear hc hR hB hz hG hE;go_enter Tryz.func53,Tryz.ntmps53
 go_upto_region 1 with fail
 generalize w.alloc (.cells #[.string ⟨#[]⟩,.slice none 0 0,.slice none 0 0] 49)=w0 at*;go_upto_region 2 with(
  go_at_call 79
  refine HC.out.mono ?_;rintro e w1 ⟨⟨ev,rfl,-,hF⟩,b1⟩;obtain⟨T,v,rfl⟩:=hF rfl)
 have n1:=(b1.block w.heap.size z0).trans n0;obtain⟨o0,y0⟩:=aA1 n1 0 (by simp)
 obtain⟨o1,y1⟩:=aA1 n1 1 (by simp)
 obtain⟨o2,y2⟩:=aA1 n1 2 (by simp)
 simp only[List.getElem_toArray,List.getElem_cons_zero,List.getElem_cons_succ] at o0 o1 o2;have HRR:=aA0 (aDM n1 (.string ⟨#[]⟩) (.slice none 0 0) (.slice none 0 0));have HBE:Hid (Below w.heap.size w (((w1.setCell ⟨w.heap.size,0,none⟩ (.string ⟨#[]⟩)).setCell ⟨w.heap.size,1,none⟩ (.slice none 0 0)).setCell ⟨w.heap.size,2,none⟩ (.slice none 0 0))):=aA0 (((((b0.trans (b1.mono (by omega))).setCell (p:=⟨w.heap.size,0,none⟩) (Nat.le_refl _) _).setCell (p:=⟨w.heap.size,1,none⟩) (Nat.le_refl _) _).setCell (p:=⟨w.heap.size,2,none⟩) (Nat.le_refl _) _))
 clear n1 n0 b0 b1 z0;go_wp2_with fail
 have e0:=(aA1 HRR.out 0 (by simp)).1
 have e1:=(aA1 HRR.out 1 (by simp)).1
 have e2:=(aA1 HRR.out 2 (by simp)).1
 exact bodyPost_ret (aH1 _ _ w.heap.size _ _ _ undef (.iface T v) rfl rfl e0 e1 e2) rfl (aJF.bad HBAD.out HBE.out)
set_option maxRecDepth 20000 in
set_option maxHeartbeats 3200000 in
theorem aNI(ps:List Pt)(w:World)(B:Nat)(a:Option Addr)(c:Nat)(hc:ps.length<=c)(hR:aAP w (·<B) ps a)(hB:B<=w.heap.size)(hz:∀i,i<ps.length->szP (pth ps i)<=1048576)(hG:GErr w)(hE:aDK ps=true)(hX:aBA ps okP=false):
  Calls Tryz.prog 53 #[.slice a ps.length c] w (aJF ps w):=by
 obtain⟨hl,hok⟩:=aOQ hE;have b0:=aA2 w (.cells #[.string ⟨#[]⟩,.slice none 0 0,.slice none 0 0] 49);have n0:=aA3 (w:=w) (N:=w.heap.size) #[.string ⟨#[]⟩,.slice none 0 0,.slice none 0 0] 49 rfl;have z0:w.heap.size<(w.alloc (.cells #[.string ⟨#[]⟩,.slice none 0 0,.slice none 0 0] 49)).heap.size:=by simp
 have HC:=aA0 (aEY ps _ B a c hc (hR.under (b0.mono hB)) (by omega) hz (hG.on b0))
 have HCB:Hid (aBA ps okP=(aE4 ps&&aE5 ps&&okP (allM ps))):=aA0 (by rw[aHT,hE,aKS hok];rfl)
 rw[hE] at HC;have HRP:Hid (∀W,Below w.heap.size w W->aAP W (·<B) ps a):=aA0 fun W hW=>hR.under (hW.mono hB);have HGE:Hid (∀W,Below w.heap.size w W->GErr W):=aA0 fun W hW=>hG.on hW;have HGX:Hid (∃T v,Hid (∀W,Below w.heap.size w W->W.cell? ⟨0,0,none⟩=some (.iface T v))):=aA0 (by
  obtain⟨T,v,g⟩:=hG 0 (by omega)
  exact⟨T,v,aA0 fun W hW=>(hW.cell (aAA g)).trans g⟩)
 have HLO:=aA0 (And.intro hl (And.intro hok hB));have HSV:Hid (∀W,Below w.heap.size w W->Calls Tryz.prog 80 #[.slice a ps.length c] W fun e w'=>∃V:Sv,e=.returned (.agg (V.cells (.slice a ps.length c)))∧SuL w' (·<B) (W.heap.size+1) (suM ps) 1000 V∧Below W.heap.size W w'):=aA0 fun W hW=>aI6 ps W B a c (hR.under (hW.mono hB)) (by have:=hW.size;omega) hl hok
 obtain⟨pl,HPL⟩:∃x,Hid (x=ps.length):=⟨_,aA0 rfl⟩;rw[<-HPL.out] at HC HSV ⊢;clear hc hR hB hz hG hE hl hok;go_enter Tryz.func53,Tryz.ntmps53
 go_upto_region 1 with fail
 generalize w.alloc (.cells #[.string ⟨#[]⟩,.slice none 0 0,.slice none 0 0] 49)=w0 at*;have HBX:Hid (∀W,Below w0.heap.size w0 W->W.heap[w.heap.size]?=some (.cells #[.string ⟨#[]⟩,.slice none 0 0,.slice none 0 0] 49 (0,0))):=aA0 fun W hW=>(hW.block w.heap.size z0).trans n0;have HBW:Hid (∀W,Below w0.heap.size w0 W->Below w.heap.size w W):=aA0 fun W hW=>b0.trans (hW.mono (by omega))
 have HZ0:=aA0 z0;clear b0 n0 z0;go_upto_region 4 with(
  go_at_call 79
  refine HC.out.mono ?_;rintro e w1 ⟨⟨ev,rfl,hF,-⟩,b1⟩;obtain rfl:=hF rfl)
 clear HC;go_upto_region 5 with(
  go_at_call 80
  refine(HSV.out w1 (HBW.out w1 b1)).mono ?_;rintro e w2 ⟨V,rfl,hS,b2⟩;obtain⟨p1,r1,k1,p2,r2,k2,p3,r3,k3,p4,r4,k4,HV⟩:=hS.form (.slice a pl c);rw[HV])
 have HB2:=aA0 (b1.trans (b2.mono b1.size));have hm:=hS.l1.mlt;have hz01:=b1.size;have hBw:=HLO.out.2.2;have hzw:=(HBW.out w1 b1).size;have HSU:Hid (∀W,Below w2.heap.size w2 W->SuL W (·<B) (w1.heap.size+1) (suM ps) 1000 V):=aA0 fun W hW=>hS.under (fun b hb=>by have hb:b<B:=hb;omega) (by omega) hW
 have hlo2:w1.heap.size+1<=w2.heap.size:=by omega
 have hBP:∀b,b<B->b<w1.heap.size+1:=fun b hb=>by omega
 have HBP:=aA0 hBP;have HW2:Hid (∀W,Below w2.heap.size w2 W->Below w.heap.size w W):=aA0 fun W hW=>HBW.out W (HB2.out.trans (hW.mono HB2.out.size));have HCA:Hid (∀W,Below w2.heap.size w2 W->Calls Tryz.prog 81 #[.agg #[.slice a pl c,.slice p1 r1 k1,.map (some V.m1),.slice p2 r2 k2,.map (some V.m2),.slice p3 r3 k3,.map (some V.m3),.slice p4 r4 k4,.map (some V.m4)]] W fun e w'=>aD1 (aE4 ps) e∧Below W.heap.size W w'):=aA0 fun W hW=>by
  have h:=aGA ps W B (w1.heap.size+1) 1000 V a c (HSU.out W hW) HBP.out (by have:=hW.size;omega) (by omega) (HRP.out W (HW2.out W hW)) HLO.out.1 HLO.out.2.1 (HGE.out W (HW2.out W hW))
  rw[<-HPL.out,HV] at h;exact h
 have HCK:Hid (∀W,Below w2.heap.size w2 W->Calls Tryz.prog 82 #[.agg #[.slice a pl c,.slice p1 r1 k1,.map (some V.m1),.slice p2 r2 k2,.map (some V.m2),.slice p3 r3 k3,.map (some V.m3),.slice p4 r4 k4,.map (some V.m4)]] W fun e w'=>aD1 (aE5 ps) e∧Below W.heap.size W w'):=aA0 fun W hW=>by
  have h:=aG2 ps W B (w1.heap.size+1) 1000 V a c (HSU.out W hW) HBP.out (by have:=hW.size;omega) (by omega) (HRP.out W (HW2.out W hW)) HLO.out.1 HLO.out.2.1 (HGE.out W (HW2.out W hW))
  rw[<-HPL.out,HV] at h;exact h
 have HAL:Hid (∀W,Below w2.heap.size w2 W->Calls Tryz.prog 83 #[.agg #[.slice a pl c,.slice p1 r1 k1,.map (some V.m1),.slice p2 r2 k2,.map (some V.m2),.slice p3 r3 k3,.map (some V.m3),.slice p4 r4 k4,.map (some V.m4)]] W fun e w'=>∃ta tc,e=.returned (.agg #[.string ⟨#[97]⟩,.slice ta (allM ps).types.length tc])∧Below W.heap.size W w'∧PRep w' (fun b=>W.heap.size<=b∧b<w'.heap.size) (allM ps) (.agg #[.string ⟨#[97]⟩,.slice ta (allM ps).types.length tc])):=aA0 fun W hW=>by
  have h:=aPE ps W B (w1.heap.size+1) 1000 V a c (HSU.out W hW) HBP.out (by have:=hW.size;omega) (by omega) HLO.out.1 HLO.out.2.1
  rw[<-HPL.out,HV] at h;refine h.mono fun e w' hE=>?_;obtain⟨ov,rfl,h2,h3⟩:=hE;have h3':=h3;obtain⟨ta,tc,e,-⟩:=h3';simp only[Value.agg.injEq,Array.mk.injEq,List.cons.injEq,and_true] at e;obtain⟨-,rfl⟩:=e;exact⟨ta,tc,rfl,h2,h3⟩
 have HOO:Hid (∀W,Below w2.heap.size w2 W->∀ta tc,PRep W (·<W.heap.size) (allM ps) (.agg #[.string ⟨#[97]⟩,.slice ta (allM ps).types.length tc])->Calls Tryz.prog 84 #[.agg #[.slice a pl c,.slice p1 r1 k1,.map (some V.m1),.slice p2 r2 k2,.map (some V.m2),.slice p3 r3 k3,.map (some V.m3),.slice p4 r4 k4,.map (some V.m4)],.agg #[.string ⟨#[97]⟩,.slice ta (allM ps).types.length tc]] W fun e w'=>∃oa oc,e=.returned (.slice oa (ownT ps (allM ps) (allM ps).types.length).length oc)∧Below W.heap.size W w'∧(ownT ps (allM ps) (allM ps).types.length).length<=oc∧aHP w' (fun b=>w1.heap.size+1<=b∧b<w'.heap.size) (ownT ps (allM ps) (allM ps).types.length) oa):=aA0 fun W hW ta tc hA=>by
  have h:=aI0 ps (HSU.out W hW) HBP.out (by have:=hW.size;omega) (by omega) HLO.out.2.1 a ps.length c (allM ps) ta tc ⟨#[97]⟩ hA (aHH ps HLO.out.1 HLO.out.2.1)
  rw[<-HPL.out,HV] at h;exact h
 have b3:=aA2 w2 (.cells #[.slice a pl c,.slice p1 r1 k1,.map (some V.m1),.slice p2 r2 k2,.map (some V.m2),.slice p3 r3 k3,.map (some V.m3),.slice p4 r4 k4,.map (some V.m4)] 146);have n3:=aA3 (w:=w2) (N:=w2.heap.size) #[.slice a pl c,.slice p1 r1 k1,.map (some V.m1),.slice p2 r2 k2,.map (some V.m2),.slice p3 r3 k3,.map (some V.m3),.slice p4 r4 k4,.map (some V.m4)] 146 rfl;have z3:w2.heap.size<(w2.alloc (.cells #[.slice a pl c,.slice p1 r1 k1,.map (some V.m1),.slice p2 r2 k2,.map (some V.m2),.slice p3 r3 k3,.map (some V.m3),.slice p4 r4 k4,.map (some V.m4)] 146)).heap.size:=by simp
 generalize w2.alloc (.cells #[.slice a pl c,.slice p1 r1 k1,.map (some V.m1),.slice p2 r2 k2,.map (some V.m2),.slice p3 r3 k3,.map (some V.m3),.slice p4 r4 k4,.map (some V.m4)] 146)=w3 at*;have HSB:Hid (∀W,Below w3.heap.size w3 W->W.cell? ⟨w2.heap.size,0,none⟩=some (.slice a pl c)∧W.cell? ⟨w2.heap.size,1,none⟩=some (.slice p1 r1 k1)∧W.cell? ⟨w2.heap.size,2,none⟩=some (.map (some V.m1))∧W.cell? ⟨w2.heap.size,3,none⟩=some (.slice p2 r2 k2)∧W.cell? ⟨w2.heap.size,4,none⟩=some (.map (some V.m2))∧W.cell? ⟨w2.heap.size,5,none⟩=some (.slice p3 r3 k3)∧W.cell? ⟨w2.heap.size,6,none⟩=some (.map (some V.m3))∧W.cell? ⟨w2.heap.size,7,none⟩=some (.slice p4 r4 k4)∧W.cell? ⟨w2.heap.size,8,none⟩=some (.map (some V.m4))):=aA0 fun W hW=>by
  have h:=(hW.block w2.heap.size z3).trans n3;exact⟨(aA1 h 0 (by simp)).1,(aA1 h 1 (by simp)).1,(aA1 h 2 (by simp)).1,(aA1 h 3 (by simp)).1,(aA1 h 4 (by simp)).1,(aA1 h 5 (by simp)).1,(aA1 h 6 (by simp)).1,(aA1 h 7 (by simp)).1,(aA1 h 8 (by simp)).1⟩
 have HW3:Hid (∀W,Below w3.heap.size w3 W->Below w2.heap.size w2 W):=aA0 fun W hW=>b3.trans (hW.mono b3.size);have H23:Hid (∀W,Below w3.heap.size w3 W->Below w0.heap.size w0 W):=aA0 fun W hW=>HB2.out.trans ((HW3.out W hW).mono HB2.out.size);obtain⟨s0,s1,s2,s3,s4,s5,s6,s7,s8⟩:=HSB.out w3 (Below.refl _ _);clear hS HV hm hz01 hBw hzw hlo2 hBP b1 b2 b3 n3 z3 HSV;cases hA:aE4 ps
 ·have HBAD:Hid (aBA ps okP=false):=aA0 (by rw[HCB.out,hA];rfl)
  rw[hA] at HCA;go_upto_region 6 with(
   go_at_call 81
   refine(HCA.out w3 (HW3.out w3 (Below.refl _ _))).mono ?_;rintro e w4 ⟨⟨ev,rfl,-,hF⟩,b4⟩;obtain⟨T,v,rfl⟩:=hF rfl)
  have nE:=HBX.out w4 (H23.out w4 b4);obtain⟨o0,y0⟩:=aA1 nE 0 (by simp)
  obtain⟨o1,y1⟩:=aA1 nE 1 (by simp)
  obtain⟨o2,y2⟩:=aA1 nE 2 (by simp)
  simp only[List.getElem_toArray,List.getElem_cons_zero,List.getElem_cons_succ] at o0 o1 o2;have HRR:=aA0 (aDM nE (.string ⟨#[]⟩) (.slice none 0 0) (.slice none 0 0));have HBE:Hid (Below w.heap.size w (((w4.setCell ⟨w.heap.size,0,none⟩ (.string ⟨#[]⟩)).setCell ⟨w.heap.size,1,none⟩ (.slice none 0 0)).setCell ⟨w.heap.size,2,none⟩ (.slice none 0 0))):=aA0 (((((HBW.out w4 (H23.out w4 b4)).setCell (p:=⟨w.heap.size,0,none⟩) (Nat.le_refl _) _).setCell (p:=⟨w.heap.size,1,none⟩) (Nat.le_refl _) _).setCell (p:=⟨w.heap.size,2,none⟩) (Nat.le_refl _) _));clear nE;go_wp2_with fail
  have e0:=(aA1 HRR.out 0 (by simp)).1
  have e1:=(aA1 HRR.out 1 (by simp)).1
  have e2:=(aA1 HRR.out 2 (by simp)).1
  exact bodyPost_ret (aH1 _ _ w.heap.size _ _ _ undef (.iface T v) rfl rfl e0 e1 e2) rfl (aJF.bad HBAD.out HBE.out)
 rw[hA] at HCA HCB;go_upto_region 8 with(
  go_at_call 81
  refine(HCA.out w3 (HW3.out w3 (Below.refl _ _))).mono ?_;rintro e w4 ⟨⟨ev,rfl,hF,-⟩,b4⟩;obtain rfl:=hF rfl)
 clear s0 s1 s2 s3 s4 s5 s6 s7 s8 HCA;obtain⟨s0,s1,s2,s3,s4,s5,s6,s7,s8⟩:=HSB.out w4 b4;cases hK:aE5 ps
 ·have HBAD:Hid (aBA ps okP=false):=aA0 (by rw[HCB.out,hK];rfl)
  rw[hK] at HCK;go_upto_region 9 with(
   go_at_call 82
   refine(HCK.out w4 (HW3.out w4 b4)).mono ?_;rintro e w5 ⟨⟨ev,rfl,-,hF⟩,b5⟩;obtain⟨T,v,rfl⟩:=hF rfl)
  have nE:=HBX.out w5 (H23.out w5 (b4.trans (b5.mono b4.size)));obtain⟨o0,y0⟩:=aA1 nE 0 (by simp)
  obtain⟨o1,y1⟩:=aA1 nE 1 (by simp)
  obtain⟨o2,y2⟩:=aA1 nE 2 (by simp)
  simp only[List.getElem_toArray,List.getElem_cons_zero,List.getElem_cons_succ] at o0 o1 o2;have HRR:=aA0 (aDM nE (.string ⟨#[]⟩) (.slice none 0 0) (.slice none 0 0));have HBE:Hid (Below w.heap.size w (((w5.setCell ⟨w.heap.size,0,none⟩ (.string ⟨#[]⟩)).setCell ⟨w.heap.size,1,none⟩ (.slice none 0 0)).setCell ⟨w.heap.size,2,none⟩ (.slice none 0 0))):=aA0 (((((HBW.out w5 (H23.out w5 (b4.trans (b5.mono b4.size)))).setCell (p:=⟨w.heap.size,0,none⟩) (Nat.le_refl _) _).setCell (p:=⟨w.heap.size,1,none⟩) (Nat.le_refl _) _).setCell (p:=⟨w.heap.size,2,none⟩) (Nat.le_refl _) _));clear nE;go_wp2_with fail
  have e0:=(aA1 HRR.out 0 (by simp)).1
  have e1:=(aA1 HRR.out 1 (by simp)).1
  have e2:=(aA1 HRR.out 2 (by simp)).1
  exact bodyPost_ret (aH1 _ _ w.heap.size _ _ _ undef (.iface T v) rfl rfl e0 e1 e2) rfl (aJF.bad HBAD.out HBE.out)
 rw[hK] at HCK HCB;go_upto_region 11 with(
  go_at_call 82
  refine(HCK.out w4 (HW3.out w4 b4)).mono ?_;rintro e w5 ⟨⟨ev,rfl,hF,-⟩,b5⟩;obtain rfl:=hF rfl)
 clear s0 s1 s2 s3 s4 s5 s6 s7 s8 HCK;have b35:=b4.trans (b5.mono b4.size);obtain⟨s0,s1,s2,s3,s4,s5,s6,s7,s8⟩:=HSB.out w5 b35;obtain⟨al,HAN⟩:∃x,Hid (x=(allM ps).types.length):=⟨_,aA0 rfl⟩;rw[<-HAN.out] at HAL;go_upto_region 12 with(
  go_at_call 83
  refine(HAL.out w5 (HW3.out w5 b35)).mono ?_;rintro e w6 ⟨ta,tc,rfl,b6,hP6⟩)
 clear s0 s1 s2 s3 s4 s5 s6 s7 s8 HAL;have b36:=b35.trans (b6.mono b35.size);have HPW:Hid (∀W,Below w6.heap.size w6 W->PRep W (·<W.heap.size) (allM ps) (.agg #[.string ⟨#[97]⟩,.slice ta al tc])):=aA0 fun W hW=>(hP6.mono fun b hb=>hW.block b hb.2).sub fun b hb=>Nat.lt_of_lt_of_le hb.2 hW.size;have b7:=aA2 w6 (.cells #[.string ⟨#[97]⟩,.slice ta al tc] 46);have n7:=aA3 (w:=w6) (N:=w6.heap.size) #[.string ⟨#[97]⟩,.slice ta al tc] 46 rfl;have z7:w6.heap.size<(w6.alloc (.cells #[.string ⟨#[97]⟩,.slice ta al tc] 46)).heap.size:=by simp
 generalize w6.alloc (.cells #[.string ⟨#[97]⟩,.slice ta al tc] 46)=w7 at*;have HB7:=aA0 (b36.trans (b7.mono b36.size));have HW6':Hid (∀W,Below w7.heap.size w7 W->Below w6.heap.size w6 W):=aA0 fun W hW=>b7.trans (hW.mono (by omega))
 have HN7:Hid (∀W,Below w7.heap.size w7 W->W.cell? ⟨w6.heap.size,0,none⟩=some (.string ⟨#[97]⟩)∧W.cell? ⟨w6.heap.size,1,none⟩=some (.slice ta al tc)):=aA0 fun W hW=>by
  have h:=(hW.block w6.heap.size z7).trans n7;exact⟨(aA1 h 0 (by simp)).1,(aA1 h 1 (by simp)).1⟩
 have HCP:=aA0 (aCR (allM ps) w7 w7.heap.size _ (HPW.out w7 b7) (Nat.le_refl _) (aHH ps HLO.out.1 HLO.out.2.1));have HZ7:=aA0 z7;have HB36:=aA0 b36.size;clear b6 hP6 b7 n7 z7 b36 b35 b5 b4;obtain⟨q0,q1⟩:=HN7.out w7 (Below.refl _ _);cases hO:okP (allM ps)
 ·have HBAD:Hid (aBA ps okP=false):=aA0 (by rw[HCB.out,hO];rfl)
  rcases aF0 _ hO with⟨x,hx⟩| ⟨i,x,hx⟩
  all_goals
   rw[hx] at HCP;go_upto_region 13 with(
    go_at_call 66
    refine HCP.out.mono ?_;rintro e w8 ⟨rfl,b8⟩)
   have bX:Below w0.heap.size w0 w8.drew:=(H23.out w8 (HB7.out.trans (b8.mono HB7.out.size))).drew;have nE:=HBX.out w8.drew bX;obtain⟨o0,y0⟩:=aA1 nE 0 (by simp)
   obtain⟨o1,y1⟩:=aA1 nE 1 (by simp)
   obtain⟨o2,y2⟩:=aA1 nE 2 (by simp)
   simp only[List.getElem_toArray,List.getElem_cons_zero,List.getElem_cons_succ] at o0 o1 o2;have HRR:=aA0 (aDM nE (.string ⟨#[]⟩) (.slice none 0 0) (.slice none 0 0));have HBE:Hid (Below w.heap.size w (((w8.drew.setCell ⟨w.heap.size,0,none⟩ (.string ⟨#[]⟩)).setCell ⟨w.heap.size,1,none⟩ (.slice none 0 0)).setCell ⟨w.heap.size,2,none⟩ (.slice none 0 0))):=aA0 (((((HBW.out w8.drew bX).setCell (p:=⟨w.heap.size,0,none⟩) (Nat.le_refl _) _).setCell (p:=⟨w.heap.size,1,none⟩) (Nat.le_refl _) _).setCell (p:=⟨w.heap.size,2,none⟩) (Nat.le_refl _) _));clear nE b8 q0 q1;obtain⟨T,v,HG0⟩:=HGX.out;refine wp_region_held_drew (S:=(fun w'=>w'.cell? ⟨0,0,none⟩=some (.iface T v))) (by kernel_rfl) (HG0.out _ (HBW.out _ bX)) (fun hHeld=>?_)
   generalize w8.drew=wD at*;refine tkH 0 hHeld ?_;refine tkH 1 hHeld ?_;refine rdyH [2] ?_;refine rcH (fun K hK=>?_) AllReadyH.nil;go_simp
   clear o0 o1 o2 y0 y1 y2;refine hK.out _ _ (HG0.out _ HBE.out) (fun hHeld=>?_);clear hK K;try simp only[Act.put,sIA,sI0,sIS]
   refine tkH 3 hHeld ?_;refine wpAnyH_done (by kernel_rfl) ?_ _
   go_wp2_with fail
   have e0:=(aA1 HRR.out 0 (by simp)).1
   have e1:=(aA1 HRR.out 1 (by simp)).1
   have e2:=(aA1 HRR.out 2 (by simp)).1
   exact bodyPost_ret (aH1 _ _ w.heap.size _ _ _ undef (.iface T v) rfl rfl e0 e1 e2) rfl (aJF.bad HBAD.out HBE.out)
 exact absurd hX (by rw[HCB.out,hO];decide)
theorem aFG(p:Pt)(nm:ByteArray)(w:World)(B:Nat)(v:Value)(hP:PRep w (·<B) p v)(hB:B<=w.heap.size):
  Calls Tryz.prog 55 #[v,.string nm] w fun e w'=>∃(fa:Option Addr) (fc:Nat),e=.returned (.tuple #[.agg #[.string (aA5 p nm).name,.string (aA5 p nm).key,.slice fa (aA5 p nm).fields.length fc],.bool (decide (0<=aAR p nm))])∧Below w.heap.size w w'∧TRep w' (·<B) (aA5 p nm) (.agg #[.string (aA5 p nm).name,.string (aA5 p nm).key,.slice fa (aA5 p nm).fields.length fc]):=
 (aFF p w B v nm hP hB).mono fun e w' h=>by
  obtain⟨n1,k1,fa,fl,fc,he,hb,ht⟩:=h;have ht':=ht;obtain⟨fa',fc',hv,-⟩:=ht;rw[hv] at he ht';exact⟨fa',fc',he,hb,ht'⟩
theorem aLS(t:T)(n:ByteArray)(w:World)(B:Nat)(v:Value)(hT:TRep w (·<B) t v)(hB:B<=w.heap.size):
  Calls Tryz.prog 98 #[v,.string n] w fun e w'=>∃(na:Option Addr) (nc:Nat),e=.returned (.tuple #[fval (aAT t n) na nc,.bool (decide (0<=aAB t n))])∧Below w.heap.size w w'∧FRep w' (·<B) (aAT t n) (fval (aAT t n) na nc):=
 (aCP t w B v n hT hB).mono fun e w' h=>by
  obtain⟨n1,o1,l1,m1,f1,h1,s1,na,nl,nc,he,hb,hf⟩:=h;have hf':=hf;obtain⟨na',nc',hv,-⟩:=hf;rw[hv] at he hf';exact⟨na',nc',he,hb,hf'⟩
theorem aIH(FW:World)(tmps:Array Value)(N:Nat)(v0 v1 v2 v3 v4 v5 v6 v7 ok:Value)(h6:tmps.getD 6 undef=.pointer (some ⟨N,0,none⟩))(h7:tmps.getD 7 undef=ok)
  (hN:FW.heap[N]?=some (.cells #[v0,v1,v2,v3,v4,v5,v6,v7] 80 (0,0))):
  (results Tryz.f119 tmps).run Tryz.prog FW=.ok (.tuple #[.agg #[v0,v1,v2,v3,v4,v5,v6,v7],ok]) FW:=by
 have d0:=(aA1 hN 0 (by simp)).1
 have d1:=(aA1 hN 1 (by simp)).1
 have d2:=(aA1 hN 2 (by simp)).1
 have d3:=(aA1 hN 3 (by simp)).1
 have d4:=(aA1 hN 4 (by simp)).1
 have d5:=(aA1 hN 5 (by simp)).1
 have d6:=(aA1 hN 6 (by simp)).1
 have d7:=(aA1 hN 7 (by simp)).1
 simp only[List.getElem_toArray,List.getElem_cons_zero,List.getElem_cons_succ] at d0 d1 d2 d3 d4 d5 d6 d7;simp only[Array.getD_eq_getD_getElem?] at h6 h7;simp[results,Tryz.results119,go_sem,h6,h7,d0,d1,d2,d3,d4,d5,d6,d7]
set_option maxRecDepth 20000 in
set_option maxHeartbeats 1600000 in
theorem aHR(ps:List Pt)(w:World)(B:Nat)(a:Option Addr)(c:Nat)(s:ByteArray)(ta:Option Addr)(tn tc:Nat)(i:Nat)(hi:i<ps.length)(nm:ByteArray)(hR:aAP w (·<B) ps a)(hB:B<=w.heap.size):
  Calls Tryz.prog 120 #[.agg #[.slice a ps.length c,.string s,.slice ta tn tc],.int .i64 i,.string nm] w fun e w'=>e=.returned (.bool (aCV (pth ps i) nm))∧Below w.heap.size w w':=by
 obtain⟨pb,po,pta,ptc,rfl,hpB,q0,q1,hP⟩:=hR.at i hi;have hii:(i:Int)<(ps.length:Int):=by omega
 obtain⟨pl,hpl⟩:∃x,x=ps.length:=⟨_,rfl⟩;rw[<-hpl] at hii ⊢;have bX:=aA2 w (.cells #[.slice (some ⟨pb,po,none⟩) pl c,.string s,.slice ta tn tc] 61);have nX:=aA3 (w:=w) (N:=w.heap.size) #[.slice (some ⟨pb,po,none⟩) pl c,.string s,.slice ta tn tc] 61 rfl;have zX:(w.alloc (.cells #[.slice (some ⟨pb,po,none⟩) pl c,.string s,.slice ta tn tc] 61)).heap.size=w.heap.size+1:=by simp
 have HFT:=aA0 (aFG (pth ps i) nm _ B _ (hP.under (bX.mono hB)) (by omega))
 replace q0:=(bX.cell (aAA q0)).trans q0
 replace q1:=(bX.cell (aAA q1)).trans q1
 have HK:Hid (aCV (pth ps i) nm=!(aA5 (pth ps i) nm).key.toList.isEmpty):=aA0 rfl;generalize aCV (pth ps i) nm=kb at*;generalize pth ps i=p at*;generalize aA5 p nm=t at*;obtain⟨tnm,ky,tfs⟩:=t;simp only at HFT HK;clear hpl hP hR hi;rw[HK.out];have HZX:=aA0 zX;clear zX;obtain⟨c0,-⟩:=aA1 nX 0 (by simp)
 simp only[List.getElem_toArray,List.getElem_cons_zero] at c0;go_enter Tryz.func120,Tryz.ntmps120
 go_upto_region 1 with fail
 generalize w.alloc (.cells #[.slice (some ⟨pb,po,none⟩) pl c,.string s,.slice ta tn tc] 61)=X at*;cases hke:ky.toList.isEmpty;all_goals
  go_wp2_with (go_at_call 55;refine HFT.out.mono ?_;rintro e w1 ⟨fa,fc,rfl,hb1,-⟩)
  go_ret
  exact⟨by first| rfl| (rw[hke]<;>rfl),(bX.trans (hb1.mono bX.size)).alloc (by have:=(bX.trans (hb1.mono bX.size)).size;omega) _⟩
set_option maxRecDepth 20000 in
set_option maxHeartbeats 3200000 in
theorem aMG(ps:List Pt)(w:World)(B:Nat)(a:Option Addr)(c:Nat)(s:ByteArray)(ta:Option Addr)(tn tc:Nat)(i:Nat)(hi:i<ps.length)(nm n:ByteArray)(hR:aAP w (·<B) ps a)(hB:B<=w.heap.size):
  Calls Tryz.prog 119 #[.agg #[.slice a ps.length c,.string s,.slice ta tn tc],.int .i64 i,.agg #[.string nm,.string n]] w fun e w'=>∃(na:Option Addr) (nc:Nat),e=.returned (.tuple #[fval (sayF (pth ps i) nm n) na nc,.bool (aGF (pth ps i) nm n)])∧Below w.heap.size w w'∧FRep w' (·<B) (sayF (pth ps i) nm n) (fval (sayF (pth ps i) nm n) na nc):=by
 obtain⟨pb,po,pta,ptc,rfl,hpB,q0,q1,hP⟩:=hR.at i hi;have hii:(i:Int)<(ps.length:Int):=by omega
 obtain⟨pl,hpl⟩:∃x,x=ps.length:=⟨_,rfl⟩;rw[<-hpl] at hii ⊢;have bX:=((aA6 w (.cells #[.slice (some ⟨pb,po,none⟩) pl c,.string s,.slice ta tn tc] 61) (.cells #[.string nm,.string n] 153))).alloc (by simp;omega) (.cells #[.string ⟨#[]⟩,.string ⟨#[]⟩,.bool false,.bool false,.bool false,.bool false,.bool false,.slice none 0 0] 80)
 have zX:(((w.alloc (.cells #[.slice (some ⟨pb,po,none⟩) pl c,.string s,.slice ta tn tc] 61)).alloc (.cells #[.string nm,.string n] 153)).alloc (.cells #[.string ⟨#[]⟩,.string ⟨#[]⟩,.bool false,.bool false,.bool false,.bool false,.bool false,.slice none 0 0] 80)).heap.size=w.heap.size+1+1+1:=by simp
 have n0:(((w.alloc (.cells #[.slice (some ⟨pb,po,none⟩) pl c,.string s,.slice ta tn tc] 61)).alloc (.cells #[.string nm,.string n] 153)).alloc (.cells #[.string ⟨#[]⟩,.string ⟨#[]⟩,.bool false,.bool false,.bool false,.bool false,.bool false,.slice none 0 0] 80)).heap[w.heap.size]?=some (.cells #[.slice (some ⟨pb,po,none⟩) pl c,.string s,.slice ta tn tc] 61 (0,0)):=by
  rw[(aA6 _ _ _).block _ (by simp)]
  exact aA3 _ _ rfl
 have n1:(((w.alloc (.cells #[.slice (some ⟨pb,po,none⟩) pl c,.string s,.slice ta tn tc] 61)).alloc (.cells #[.string nm,.string n] 153)).alloc (.cells #[.string ⟨#[]⟩,.string ⟨#[]⟩,.bool false,.bool false,.bool false,.bool false,.bool false,.slice none 0 0] 80)).heap[w.heap.size+1]?=some (.cells #[.string nm,.string n] 153 (0,0)):=by
  rw[(aA2 _ _).block _ (by simp)]
  exact aA3 _ _ (by simp)
 have n2:(((w.alloc (.cells #[.slice (some ⟨pb,po,none⟩) pl c,.string s,.slice ta tn tc] 61)).alloc (.cells #[.string nm,.string n] 153)).alloc (.cells #[.string ⟨#[]⟩,.string ⟨#[]⟩,.bool false,.bool false,.bool false,.bool false,.bool false,.slice none 0 0] 80)).heap[w.heap.size+1+1]?=some (.cells #[.string ⟨#[]⟩,.string ⟨#[]⟩,.bool false,.bool false,.bool false,.bool false,.bool false,.slice none 0 0] 80 (0,0)):=aA3 _ _ (by simp)
 have HFT:=aA0 (fun W (hW:Below w.heap.size w W)=>aFG (pth ps i) nm W B _ (hP.under (hW.mono hB)) (by have:=hW.size;omega))
 have HFF:=aA0 (fun W v (hT:TRep W (·<B) (aA5 (pth ps i) nm) v) (hB:B<=W.heap.size)=>aLS (aA5 (pth ps i) nm) n W B v hT hB);have HKB:Hid (aGF (pth ps i) nm n=(decide (0<=aAB (aA5 (pth ps i) nm) n)&&!(aAT (aA5 (pth ps i) nm) n).far)):=aA0 rfl;have HSF:Hid (sayF (pth ps i) nm n=aAT (aA5 (pth ps i) nm) n):=aA0 rfl;have HQ:Hid (∀W,Below w.heap.size w W->W.cell? ⟨pb,po+i*2,none⟩=some (.string (pth ps i).name)∧W.cell? ⟨pb,po+i*2+1,none⟩=some (.slice pta (pth ps i).types.length ptc)):=aA0 fun W hW=>⟨(hW.cell (aAA q0)).trans q0,(hW.cell (aAA q1)).trans q1⟩;rw[HSF.out];generalize aGF (pth ps i) nm n=kb at*;generalize pth ps i=p at*;generalize decide (0<=aAB (aA5 p nm) n)=kn at*;generalize aAT (aA5 p nm) n=g at*;generalize aA5 p nm=t at*;obtain⟨tnm,ky,tfs⟩:=t;obtain⟨gn,gof,gl,gm,gfr,gh,gs,gd⟩:=g;simp only[fval] at HFT HFF HKB HSF ⊢;clear hpl hP hR hi q0 q1 HSF;have HBW:=aA0 hB;go_enter Tryz.func119,Tryz.ntmps119
 go_upto_region 1 with fail
 generalize ((w.alloc (.cells #[.slice (some ⟨pb,po,none⟩) pl c,.string s,.slice ta tn tc] 61)).alloc (.cells #[.string nm,.string n] 153)).alloc (.cells #[.string ⟨#[]⟩,.string ⟨#[]⟩,.bool false,.bool false,.bool false,.bool false,.bool false,.slice none 0 0] 80)=X at*;have HX:Hid (∀W,Below X.heap.size X W->(W.cell? ⟨w.heap.size,0,none⟩=some (.slice (some ⟨pb,po,none⟩) pl c)∧W.cell? ⟨w.heap.size+1,0,none⟩=some (.string nm)∧W.cell? ⟨w.heap.size+1,1,none⟩=some (.string n))∧W.heap[w.heap.size+1+1]?=some (.cells #[.string ⟨#[]⟩,.string ⟨#[]⟩,.bool false,.bool false,.bool false,.bool false,.bool false,.slice none 0 0] 80 (0,0))∧Below w.heap.size w W∧w.heap.size+1+1<W.heap.size):=aA0 fun W hW=>by
  have h0:=(hW.block w.heap.size (by omega)).trans n0
  have h1:=(hW.block (w.heap.size+1) (by omega)).trans n1
  have h2:=(hW.block (w.heap.size+1+1) (by omega)).trans n2
  have:=hW.size;exact⟨⟨(aA1 h0 0 (by simp)).1,(aA1 h1 0 (by simp)).1,(aA1 h1 1 (by simp)).1⟩,h2,bX.trans (hW.mono bX.size),by omega⟩
 have HS:Hid (∀W,Below X.heap.size X W->W.cell? ⟨w.heap.size,0,none⟩=some (.slice (some ⟨pb,po,none⟩) pl c)∧W.cell? ⟨w.heap.size+1,0,none⟩=some (.string nm)∧W.cell? ⟨pb,po+i*2,none⟩=some (.string p.name)∧W.cell? ⟨pb,po+i*2+1,none⟩=some (.slice pta p.types.length ptc)):=aA0 fun W hW=>⟨(HX.out W hW).1.1,(HX.out W hW).1.2.1,HQ.out W (HX.out W hW).2.2.1⟩;clear n0 n1 n2 zX bX hB;generalize p.types.length=ptl at*;generalize p.name=pnm at*;go_cut [8,9] (fun r o wx=>∃(fb:Nat) (fa:Option Addr) (fc:Nat),r=.pointer (some ⟨fb,0,none⟩)∧Hid (wx.heap[fb]?=some (.cells #[.string tnm,.string ky,.slice fa tfs.length fc] 96 (0,0))∧TRep wx (·<B) ⟨tnm,ky,tfs⟩ (.agg #[.string tnm,.string ky,.slice fa tfs.length fc]))∧Below X.heap.size X wx)
 case first=>
  refine wp_region_held_drew (S:=(fun W=>W.cell? ⟨w.heap.size,0,none⟩=some (.slice (some ⟨pb,po,none⟩) pl c)∧W.cell? ⟨w.heap.size+1,0,none⟩=some (.string nm)∧W.cell? ⟨pb,po+i*2,none⟩=some (.string pnm)∧W.cell? ⟨pb,po+i*2+1,none⟩=some (.slice pta ptl ptc))) (by kernel_rfl) (HS.out _ (Below.refl _ _).drew) (fun hHeld=>?_)
  have bX:Below X.heap.size X X.drew:=(Below.refl _ _).drew;generalize X.drew=wD at*;refine tkH 0 hHeld ?_;refine tkH 1 hHeld ?_;refine tkH 2 hHeld ?_;refine tkH 3 hHeld ?_;refine tkH 4 hHeld ?_;refine tkH 5 hHeld ?_;refine tkH 6 hHeld ?_;refine rdyH [7,11] ?_;refine rcH (fun K hK=>?_) ?_
  ·go_simp
   refine(HFT.out wD (HX.out wD bX).2.2.1).mono ?_;rintro e wK ⟨fa,fc,rfl,bK,hTR⟩;have HTR:=aA0 hTR;clear hTR;have bX:=bX.trans (bK.mono bX.size);refine hK.out _ _ (HS.out _ bX) (fun hHeld=>?_);clear hK K;try simp only[Act.put,sIA,sI0,sIS]
   refine tkH 8 hHeld ?_;refine tkH 9 hHeld ?_;refine tkH 10 hHeld ?_;refine rdyH [11] ?_;refine rcH (fun K hK=>?_) AllReadyH.nil;go_simp
   have bE:=aA2 wK (.cells #[.string ⟨#[]⟩,.string ⟨#[]⟩,.slice none 0 0] 96);have nE:=aA3 (w:=wK) #[.string ⟨#[]⟩,.string ⟨#[]⟩,.slice none 0 0] 96 rfl;have qE:X.heap.size<=wK.heap.size:=bX.size;have zE:wK.heap.size<(wK.alloc (.cells #[.string ⟨#[]⟩,.string ⟨#[]⟩,.slice none 0 0] 96)).heap.size:=by simp
   have bX0:=bX;have bX:=bX.trans (bE.mono bX.size);have HTR:=aA0 (HTR.out.under (bE.mono (Nat.le_trans HBW.out (HX.out wK bX0).2.2.1.size)));refine hK.out _ _ (HS.out _ bX) (fun hHeld=>?_);clear hK K;try simp only[Act.put,sIA,sI0,sIS]
   generalize wK.alloc (.cells #[.string ⟨#[]⟩,.string ⟨#[]⟩,.slice none 0 0] 96)=wE at*;refine rdyH [12] ?_;refine rcH (fun K hK=>?_) AllReadyH.nil;obtain⟨y0,g0⟩:=aA1 nE 0 (by simp)
   obtain⟨y1,g1⟩:=aA1 nE 1 (by simp)
   obtain⟨y2,g2⟩:=aA1 nE 2 (by simp)
   go_simp
   refine hK.out _ _ (HS.out _ (aB7 bX qE _ _ _)) (fun hHeld=>?_);clear hK K;try simp only[Act.put,sIA,sI0,sIS]
   refine tkH 13 hHeld ?_;refine wpAnyH_done (by kernel_rfl) ?_ _
   go_wp2_with fail
   go_meet
   case rel=>
    refine⟨_,fa,fc,rfl,aA0 ⟨aDM nE _ _ _,HTR.out.mono fun b hb=>aD0 ?_ _ _ _ _⟩,aB7 bX qE _ _ _⟩;have hb:b<B:=hb;have:=HBW.out;have:=(HX.out X (Below.refl _ _)).2.2.1.size;omega
  refine rcH (fun K hK=>?_) AllReadyH.nil;go_simp
  have bE:=aA2 wD (.cells #[.string ⟨#[]⟩,.string ⟨#[]⟩,.slice none 0 0] 96);have nE:=aA3 (w:=wD) #[.string ⟨#[]⟩,.string ⟨#[]⟩,.slice none 0 0] 96 rfl;have qE:X.heap.size<=wD.heap.size:=bX.size;have zE:wD.heap.size<(wD.alloc (.cells #[.string ⟨#[]⟩,.string ⟨#[]⟩,.slice none 0 0] 96)).heap.size:=by simp
  have bX0:=bX;have bX:=bX.trans (bE.mono bX.size);refine hK.out _ _ (HS.out _ bX) (fun hHeld=>?_);clear hK K;try simp only[Act.put,sIA,sI0,sIS]
  generalize wD.alloc (.cells #[.string ⟨#[]⟩,.string ⟨#[]⟩,.slice none 0 0] 96)=wE at*;refine rdyH [7] ?_;refine rcH (fun K hK=>?_) AllReadyH.nil;go_simp
  refine(HFT.out wE (HX.out wE bX).2.2.1).mono ?_;rintro e wK ⟨fa,fc,rfl,bK,hTR⟩;have HTR:=aA0 hTR;clear hTR;have bX:=bX.trans (bK.mono bX.size);have nE:=(bK.block _ zE).trans nE;have zE:=Nat.lt_of_lt_of_le zE bK.size;refine hK.out _ _ (HS.out _ bX) (fun hHeld=>?_);clear hK K;try simp only[Act.put,sIA,sI0,sIS]
  refine tkH 8 hHeld ?_;refine tkH 9 hHeld ?_;refine tkH 10 hHeld ?_;refine rdyH [12] ?_;refine rcH (fun K hK=>?_) AllReadyH.nil;obtain⟨y0,g0⟩:=aA1 nE 0 (by simp)
  obtain⟨y1,g1⟩:=aA1 nE 1 (by simp)
  obtain⟨y2,g2⟩:=aA1 nE 2 (by simp)
  go_simp
  refine hK.out _ _ (HS.out _ (aB7 bX qE _ _ _)) (fun hHeld=>?_);clear hK K;try simp only[Act.put,sIA,sI0,sIS]
  refine tkH 13 hHeld ?_;refine wpAnyH_done (by kernel_rfl) ?_ _
  go_wp2_with fail
  go_meet
  case rel=>
   refine⟨_,fa,fc,rfl,aA0 ⟨aDM nE _ _ _,HTR.out.mono fun b hb=>aD0 ?_ _ _ _ _⟩,aB7 bX qE _ _ _⟩;have hb:b<B:=hb;have:=HBW.out;have:=(HX.out X (Below.refl _ _)).2.2.1.size;omega
 case rest=>
  obtain⟨fb,fa,fc,rfl,HT,bx⟩:=hcut;obtain⟨wx,rfl⟩:∃x,x=wc:=⟨wc,rfl⟩;have t0:=(aA1 HT.out.1 0 (by simp)).1
  have t1:=(aA1 HT.out.1 1 (by simp)).1
  have t2:=(aA1 HT.out.1 2 (by simp)).1
  simp only[List.getElem_toArray,List.getElem_cons_zero,List.getElem_cons_succ] at t0 t1 t2;obtain⟨⟨-,-,k1⟩,-,bwx,-⟩:=HX.out wx bx;have HF1:=aA0 (HFF.out wx _ HT.out.2 (by have:=HBW.out;have:=bwx.size;omega))
  clear HFF HFT HQ HS;go_upto_region 3 with(
   go_at_call 98
   refine HF1.out.mono ?_;rintro e w2 ⟨na,nc,rfl,hb2,hfr⟩)
  have bF:=aA2 w2 (.cells #[.string gn,.string gof,.bool gl,.bool gm,.bool gfr,.bool gh,.bool gs,.slice na gd.length nc] 80);have nF:=aA3 (w:=w2) (N:=w2.heap.size) #[.string gn,.string gof,.bool gl,.bool gm,.bool gfr,.bool gh,.bool gs,.slice na gd.length nc] 80 rfl;have zF:(w2.alloc (.cells #[.string gn,.string gof,.bool gl,.bool gm,.bool gfr,.bool gh,.bool gs,.slice na gd.length nc] 80)).heap.size=w2.heap.size+1:=by simp
  have bX2:=bx.trans (hb2.mono bx.size);have bX3:=bX2.trans (bF.mono bX2.size);have HFR:=aA0 (hfr.under (bF.mono (by have:=HBW.out;have:=(bwx.trans (hb2.mono bwx.size)).size;omega)))
  clear t0 t1 t2 k1 hfr HT HF1 bwx;generalize w2.alloc (.cells #[.string gn,.string gof,.bool gl,.bool gm,.bool gfr,.bool gh,.bool gs,.slice na gd.length nc] 80)=Y at*;have hzX:=bX2.size;have HBX:Hid (∀W,Below Y.heap.size Y W->W.heap[w.heap.size+1+1]?=some (.cells #[.string ⟨#[]⟩,.string ⟨#[]⟩,.bool false,.bool false,.bool false,.bool false,.bool false,.slice none 0 0] 80 (0,0))∧(W.cell? ⟨w2.heap.size,0,none⟩=some (.string gn)∧W.cell? ⟨w2.heap.size,1,none⟩=some (.string gof)∧W.cell? ⟨w2.heap.size,2,none⟩=some (.bool gl)∧W.cell? ⟨w2.heap.size,3,none⟩=some (.bool gm)∧W.cell? ⟨w2.heap.size,4,none⟩=some (.bool gfr)∧W.cell? ⟨w2.heap.size,5,none⟩=some (.bool gh)∧W.cell? ⟨w2.heap.size,6,none⟩=some (.bool gs)∧W.cell? ⟨w2.heap.size,7,none⟩=some (.slice na gd.length nc))):=aA0 fun W hW=>by
   have h:=(hW.block w2.heap.size (by omega)).trans nF
   exact⟨(HX.out W (bX3.trans (hW.mono bX3.size))).2.1,(aA1 h 0 (by simp)).1,(aA1 h 1 (by simp)).1,(aA1 h 2 (by simp)).1,(aA1 h 3 (by simp)).1,(aA1 h 4 (by simp)).1,(aA1 h 5 (by simp)).1,(aA1 h 6 (by simp)).1,(aA1 h 7 (by simp)).1⟩
  have HW3:=aA0 (HX.out Y bX3).2.2;have HNE:Hid (w.heap.size+1+1≠w2.heap.size):=aA0 (by have:=(HX.out w2 bX2).2.2.2;omega)
  have HFIN:Hid (∀W,Below Y.heap.size Y W->∃(na':Option Addr) (nc':Nat),Ending.returned (.tuple #[.agg #[.string gn,.string gof,.bool gl,.bool gm,.bool gfr,.bool gh,.bool gs,.slice na gd.length nc],.bool kb])=.returned (.tuple #[.agg #[.string gn,.string gof,.bool gl,.bool gm,.bool gfr,.bool gh,.bool gs,.slice na' gd.length nc'],.bool kb])∧Below w.heap.size w (((((((((W.setCell ⟨w.heap.size+1+1,0,none⟩ (.string gn)).setCell ⟨w.heap.size+1+1,1,none⟩ (.string gof)).setCell ⟨w.heap.size+1+1,2,none⟩ (.bool gl)).setCell ⟨w.heap.size+1+1,3,none⟩ (.bool gm)).setCell ⟨w.heap.size+1+1,4,none⟩ (.bool gfr)).setCell ⟨w.heap.size+1+1,5,none⟩ (.bool gh)).setCell ⟨w.heap.size+1+1,6,none⟩ (.bool gs)).setCell ⟨w.heap.size+1+1,7,none⟩ (.slice na gd.length nc)))∧FRep ((((((((W.setCell ⟨w.heap.size+1+1,0,none⟩ (.string gn)).setCell ⟨w.heap.size+1+1,1,none⟩ (.string gof)).setCell ⟨w.heap.size+1+1,2,none⟩ (.bool gl)).setCell ⟨w.heap.size+1+1,3,none⟩ (.bool gm)).setCell ⟨w.heap.size+1+1,4,none⟩ (.bool gfr)).setCell ⟨w.heap.size+1+1,5,none⟩ (.bool gh)).setCell ⟨w.heap.size+1+1,6,none⟩ (.bool gs)).setCell ⟨w.heap.size+1+1,7,none⟩ (.slice na gd.length nc)) (·<B) ⟨gn,gof,gl,gm,gfr,gh,gs,gd⟩ (.agg #[.string gn,.string gof,.bool gl,.bool gm,.bool gfr,.bool gh,.bool gs,.slice na' gd.length nc'])):=aA0 fun W hW=>by
   have hB:=HBW.out;have hs:=HW3.out.1.size;refine⟨na,nc,rfl,aAH (HW3.out.1.trans (hW.mono hs)) (by omega) _ _ _ _ _ _ _ _,?_⟩
   refine(HFR.out.under (hW.mono (by omega))).mono fun b hb=>aCZ (by omega) _ _ _ _ _ _ _ _ _
  have HST:Hid (∀W,Below Y.heap.size Y W->((((((((W.setCell ⟨w.heap.size+1+1,0,none⟩ (.string gn)).setCell ⟨w.heap.size+1+1,1,none⟩ (.string gof)).setCell ⟨w.heap.size+1+1,2,none⟩ (.bool gl)).setCell ⟨w.heap.size+1+1,3,none⟩ (.bool gm)).setCell ⟨w.heap.size+1+1,4,none⟩ (.bool gfr)).setCell ⟨w.heap.size+1+1,5,none⟩ (.bool gh)).setCell ⟨w.heap.size+1+1,6,none⟩ (.bool gs)).setCell ⟨w.heap.size+1+1,7,none⟩ (.slice na gd.length nc)).cell? ⟨w2.heap.size,0,none⟩=some (.string gn)∧((((((((W.setCell ⟨w.heap.size+1+1,0,none⟩ (.string gn)).setCell ⟨w.heap.size+1+1,1,none⟩ (.string gof)).setCell ⟨w.heap.size+1+1,2,none⟩ (.bool gl)).setCell ⟨w.heap.size+1+1,3,none⟩ (.bool gm)).setCell ⟨w.heap.size+1+1,4,none⟩ (.bool gfr)).setCell ⟨w.heap.size+1+1,5,none⟩ (.bool gh)).setCell ⟨w.heap.size+1+1,6,none⟩ (.bool gs)).setCell ⟨w.heap.size+1+1,7,none⟩ (.slice na gd.length nc)).cell? ⟨w2.heap.size,1,none⟩=some (.string gof)∧((((((((W.setCell ⟨w.heap.size+1+1,0,none⟩ (.string gn)).setCell ⟨w.heap.size+1+1,1,none⟩ (.string gof)).setCell ⟨w.heap.size+1+1,2,none⟩ (.bool gl)).setCell ⟨w.heap.size+1+1,3,none⟩ (.bool gm)).setCell ⟨w.heap.size+1+1,4,none⟩ (.bool gfr)).setCell ⟨w.heap.size+1+1,5,none⟩ (.bool gh)).setCell ⟨w.heap.size+1+1,6,none⟩ (.bool gs)).setCell ⟨w.heap.size+1+1,7,none⟩ (.slice na gd.length nc)).cell? ⟨w2.heap.size,2,none⟩=some (.bool gl)∧((((((((W.setCell ⟨w.heap.size+1+1,0,none⟩ (.string gn)).setCell ⟨w.heap.size+1+1,1,none⟩ (.string gof)).setCell ⟨w.heap.size+1+1,2,none⟩ (.bool gl)).setCell ⟨w.heap.size+1+1,3,none⟩ (.bool gm)).setCell ⟨w.heap.size+1+1,4,none⟩ (.bool gfr)).setCell ⟨w.heap.size+1+1,5,none⟩ (.bool gh)).setCell ⟨w.heap.size+1+1,6,none⟩ (.bool gs)).setCell ⟨w.heap.size+1+1,7,none⟩ (.slice na gd.length nc)).cell? ⟨w2.heap.size,3,none⟩=some (.bool gm)∧((((((((W.setCell ⟨w.heap.size+1+1,0,none⟩ (.string gn)).setCell ⟨w.heap.size+1+1,1,none⟩ (.string gof)).setCell ⟨w.heap.size+1+1,2,none⟩ (.bool gl)).setCell ⟨w.heap.size+1+1,3,none⟩ (.bool gm)).setCell ⟨w.heap.size+1+1,4,none⟩ (.bool gfr)).setCell ⟨w.heap.size+1+1,5,none⟩ (.bool gh)).setCell ⟨w.heap.size+1+1,6,none⟩ (.bool gs)).setCell ⟨w.heap.size+1+1,7,none⟩ (.slice na gd.length nc)).cell? ⟨w2.heap.size,4,none⟩=some (.bool gfr)∧((((((((W.setCell ⟨w.heap.size+1+1,0,none⟩ (.string gn)).setCell ⟨w.heap.size+1+1,1,none⟩ (.string gof)).setCell ⟨w.heap.size+1+1,2,none⟩ (.bool gl)).setCell ⟨w.heap.size+1+1,3,none⟩ (.bool gm)).setCell ⟨w.heap.size+1+1,4,none⟩ (.bool gfr)).setCell ⟨w.heap.size+1+1,5,none⟩ (.bool gh)).setCell ⟨w.heap.size+1+1,6,none⟩ (.bool gs)).setCell ⟨w.heap.size+1+1,7,none⟩ (.slice na gd.length nc)).cell? ⟨w2.heap.size,5,none⟩=some (.bool gh)∧((((((((W.setCell ⟨w.heap.size+1+1,0,none⟩ (.string gn)).setCell ⟨w.heap.size+1+1,1,none⟩ (.string gof)).setCell ⟨w.heap.size+1+1,2,none⟩ (.bool gl)).setCell ⟨w.heap.size+1+1,3,none⟩ (.bool gm)).setCell ⟨w.heap.size+1+1,4,none⟩ (.bool gfr)).setCell ⟨w.heap.size+1+1,5,none⟩ (.bool gh)).setCell ⟨w.heap.size+1+1,6,none⟩ (.bool gs)).setCell ⟨w.heap.size+1+1,7,none⟩ (.slice na gd.length nc)).cell? ⟨w2.heap.size,6,none⟩=some (.bool gs)∧((((((((W.setCell ⟨w.heap.size+1+1,0,none⟩ (.string gn)).setCell ⟨w.heap.size+1+1,1,none⟩ (.string gof)).setCell ⟨w.heap.size+1+1,2,none⟩ (.bool gl)).setCell ⟨w.heap.size+1+1,3,none⟩ (.bool gm)).setCell ⟨w.heap.size+1+1,4,none⟩ (.bool gfr)).setCell ⟨w.heap.size+1+1,5,none⟩ (.bool gh)).setCell ⟨w.heap.size+1+1,6,none⟩ (.bool gs)).setCell ⟨w.heap.size+1+1,7,none⟩ (.slice na gd.length nc)).cell? ⟨w2.heap.size,7,none⟩=some (.slice na gd.length nc)):=aA0 fun W hW=>by
   obtain⟨d0,d1,d2,d3,d4,d5,d6,d7⟩:=(HBX.out W hW).2;have hne:=HNE.out;generalize w.heap.size+1+1=M at*;have hst:∀j,((((((((W.setCell ⟨M,0,none⟩ (.string gn)).setCell ⟨M,1,none⟩ (.string gof)).setCell ⟨M,2,none⟩ (.bool gl)).setCell ⟨M,3,none⟩ (.bool gm)).setCell ⟨M,4,none⟩ (.bool gfr)).setCell ⟨M,5,none⟩ (.bool gh)).setCell ⟨M,6,none⟩ (.bool gs)).setCell ⟨M,7,none⟩ (.slice na gd.length nc)).cell? ⟨w2.heap.size,j,none⟩=W.cell? ⟨w2.heap.size,j,none⟩:=fun j=>World.cell?_of_block (aCZ (fun e=>hne e.symm) _ _ _ _ _ _ _ _ _);exact⟨(hst 0).trans d0,(hst 1).trans d1,(hst 2).trans d2,(hst 3).trans d3,(hst 4).trans d4,(hst 5).trans d5,(hst 6).trans d6,(hst 7).trans d7⟩
  have HR8:Hid (∀W,Below Y.heap.size Y W->((((((((W.setCell ⟨w.heap.size+1+1,0,none⟩ (.string gn)).setCell ⟨w.heap.size+1+1,1,none⟩ (.string gof)).setCell ⟨w.heap.size+1+1,2,none⟩ (.bool gl)).setCell ⟨w.heap.size+1+1,3,none⟩ (.bool gm)).setCell ⟨w.heap.size+1+1,4,none⟩ (.bool gfr)).setCell ⟨w.heap.size+1+1,5,none⟩ (.bool gh)).setCell ⟨w.heap.size+1+1,6,none⟩ (.bool gs)).setCell ⟨w.heap.size+1+1,7,none⟩ (.slice na gd.length nc)).heap[w.heap.size+1+1]?=some (.cells #[.string gn,.string gof,.bool gl,.bool gm,.bool gfr,.bool gh,.bool gs,.slice na gd.length nc] 80 (0,0))):=aA0 fun W hW=>aFM (HBX.out W hW).1 _ _ _ _ _ _ _ _;have HKC:=aA0 HKB.out;clear nF bF bX3 bX2 hzX zF hb2;cases kn<;>cases gfr
  ·have e:kb=false:=HKC.out;subst e;refine wp_region_held_drew (S:=(fun W=>W.cell? ⟨w2.heap.size,0,none⟩=some (.string gn)∧W.cell? ⟨w2.heap.size,1,none⟩=some (.string gof)∧W.cell? ⟨w2.heap.size,2,none⟩=some (.bool gl)∧W.cell? ⟨w2.heap.size,3,none⟩=some (.bool gm)∧W.cell? ⟨w2.heap.size,4,none⟩=some (.bool false)∧W.cell? ⟨w2.heap.size,5,none⟩=some (.bool gh)∧W.cell? ⟨w2.heap.size,6,none⟩=some (.bool gs)∧W.cell? ⟨w2.heap.size,7,none⟩=some (.slice na gd.length nc))) (by kernel_rfl) (HBX.out _ (Below.refl _ _).drew).2 (fun hHeld=>?_)
   have bY:Below Y.heap.size Y Y.drew:=(Below.refl _ _).drew;generalize Y.drew=wD at*;refine tkH 0 hHeld ?_;refine tkH 1 hHeld ?_;refine tkH 2 hHeld ?_;refine tnH 3 hHeld ?_;refine tnH 4 hHeld ?_;refine tnH 5 hHeld ?_;refine tkH 6 hHeld ?_;refine rdyH [7] ?_;refine rcH (fun K hK=>?_) AllReadyH.nil;have nE:=(HBX.out wD bY).1;obtain⟨y0,g0⟩:=aA1 nE 0 (by simp)
   obtain⟨y1,g1⟩:=aA1 nE 1 (by simp)
   obtain⟨y2,g2⟩:=aA1 nE 2 (by simp)
   obtain⟨y3,g3⟩:=aA1 nE 3 (by simp)
   obtain⟨y4,g4⟩:=aA1 nE 4 (by simp)
   obtain⟨y5,g5⟩:=aA1 nE 5 (by simp)
   obtain⟨y6,g6⟩:=aA1 nE 6 (by simp)
   obtain⟨y7,g7⟩:=aA1 nE 7 (by simp)
   go_simp
   refine hK.out _ _ (HST.out wD bY) (fun hHeld=>?_);clear hK K;try simp only[Act.put,sIA,sI0,sIS]
   refine tkH 8 hHeld ?_;refine wpAnyH_done (by kernel_rfl) ?_ _
   have HR9:=aA0 (HR8.out wD bY);have HFF:=aA0 (HFIN.out wD bY);go_wp2_with fail
   exact bodyPost_ret (aIH _ _ (w.heap.size+1+1) _ _ _ _ _ _ _ _ _ rfl rfl HR9.out) rfl HFF.out
  ·have e:kb=false:=HKC.out;subst e;refine wp_region_held_drew (S:=(fun W=>W.cell? ⟨w2.heap.size,0,none⟩=some (.string gn)∧W.cell? ⟨w2.heap.size,1,none⟩=some (.string gof)∧W.cell? ⟨w2.heap.size,2,none⟩=some (.bool gl)∧W.cell? ⟨w2.heap.size,3,none⟩=some (.bool gm)∧W.cell? ⟨w2.heap.size,4,none⟩=some (.bool true)∧W.cell? ⟨w2.heap.size,5,none⟩=some (.bool gh)∧W.cell? ⟨w2.heap.size,6,none⟩=some (.bool gs)∧W.cell? ⟨w2.heap.size,7,none⟩=some (.slice na gd.length nc))) (by kernel_rfl) (HBX.out _ (Below.refl _ _).drew).2 (fun hHeld=>?_)
   have bY:Below Y.heap.size Y Y.drew:=(Below.refl _ _).drew;generalize Y.drew=wD at*;refine tkH 0 hHeld ?_;refine tkH 1 hHeld ?_;refine tkH 2 hHeld ?_;refine tnH 3 hHeld ?_;refine tnH 4 hHeld ?_;refine tnH 5 hHeld ?_;refine tkH 6 hHeld ?_;refine rdyH [7] ?_;refine rcH (fun K hK=>?_) AllReadyH.nil;have nE:=(HBX.out wD bY).1;obtain⟨y0,g0⟩:=aA1 nE 0 (by simp)
   obtain⟨y1,g1⟩:=aA1 nE 1 (by simp)
   obtain⟨y2,g2⟩:=aA1 nE 2 (by simp)
   obtain⟨y3,g3⟩:=aA1 nE 3 (by simp)
   obtain⟨y4,g4⟩:=aA1 nE 4 (by simp)
   obtain⟨y5,g5⟩:=aA1 nE 5 (by simp)
   obtain⟨y6,g6⟩:=aA1 nE 6 (by simp)
   obtain⟨y7,g7⟩:=aA1 nE 7 (by simp)
   go_simp
   refine hK.out _ _ (HST.out wD bY) (fun hHeld=>?_);clear hK K;try simp only[Act.put,sIA,sI0,sIS]
   refine tkH 8 hHeld ?_;refine wpAnyH_done (by kernel_rfl) ?_ _
   have HR9:=aA0 (HR8.out wD bY);have HFF:=aA0 (HFIN.out wD bY);go_wp2_with fail
   exact bodyPost_ret (aIH _ _ (w.heap.size+1+1) _ _ _ _ _ _ _ _ _ rfl rfl HR9.out) rfl HFF.out
  ·have e:kb=true:=HKC.out;subst e;refine wp_region_held_drew (S:=(fun W=>W.cell? ⟨w2.heap.size,0,none⟩=some (.string gn)∧W.cell? ⟨w2.heap.size,1,none⟩=some (.string gof)∧W.cell? ⟨w2.heap.size,2,none⟩=some (.bool gl)∧W.cell? ⟨w2.heap.size,3,none⟩=some (.bool gm)∧W.cell? ⟨w2.heap.size,4,none⟩=some (.bool false)∧W.cell? ⟨w2.heap.size,5,none⟩=some (.bool gh)∧W.cell? ⟨w2.heap.size,6,none⟩=some (.bool gs)∧W.cell? ⟨w2.heap.size,7,none⟩=some (.slice na gd.length nc))) (by kernel_rfl) (HBX.out _ (Below.refl _ _).drew).2 (fun hHeld=>?_)
   have bY:Below Y.heap.size Y Y.drew:=(Below.refl _ _).drew;generalize Y.drew=wD at*;refine tkH 0 hHeld ?_;refine tkH 1 hHeld ?_;refine tkH 2 hHeld ?_;refine tkH 3 hHeld ?_;refine tkH 4 hHeld ?_;refine tkH 5 hHeld ?_;refine tkH 6 hHeld ?_;refine rdyH [7] ?_;refine rcH (fun K hK=>?_) AllReadyH.nil;have nE:=(HBX.out wD bY).1;obtain⟨y0,g0⟩:=aA1 nE 0 (by simp)
   obtain⟨y1,g1⟩:=aA1 nE 1 (by simp)
   obtain⟨y2,g2⟩:=aA1 nE 2 (by simp)
   obtain⟨y3,g3⟩:=aA1 nE 3 (by simp)
   obtain⟨y4,g4⟩:=aA1 nE 4 (by simp)
   obtain⟨y5,g5⟩:=aA1 nE 5 (by simp)
   obtain⟨y6,g6⟩:=aA1 nE 6 (by simp)
   obtain⟨y7,g7⟩:=aA1 nE 7 (by simp)
   go_simp
   refine hK.out _ _ (HST.out wD bY) (fun hHeld=>?_);clear hK K;try simp only[Act.put,sIA,sI0,sIS]
   refine tkH 8 hHeld ?_;refine wpAnyH_done (by kernel_rfl) ?_ _
   have HR9:=aA0 (HR8.out wD bY);have HFF:=aA0 (HFIN.out wD bY);go_wp2_with fail
   exact bodyPost_ret (aIH _ _ (w.heap.size+1+1) _ _ _ _ _ _ _ _ _ rfl rfl HR9.out) rfl HFF.out
  ·have e:kb=false:=HKC.out;subst e;refine wp_region_held_drew (S:=(fun W=>W.cell? ⟨w2.heap.size,0,none⟩=some (.string gn)∧W.cell? ⟨w2.heap.size,1,none⟩=some (.string gof)∧W.cell? ⟨w2.heap.size,2,none⟩=some (.bool gl)∧W.cell? ⟨w2.heap.size,3,none⟩=some (.bool gm)∧W.cell? ⟨w2.heap.size,4,none⟩=some (.bool true)∧W.cell? ⟨w2.heap.size,5,none⟩=some (.bool gh)∧W.cell? ⟨w2.heap.size,6,none⟩=some (.bool gs)∧W.cell? ⟨w2.heap.size,7,none⟩=some (.slice na gd.length nc))) (by kernel_rfl) (HBX.out _ (Below.refl _ _).drew).2 (fun hHeld=>?_)
   have bY:Below Y.heap.size Y Y.drew:=(Below.refl _ _).drew;generalize Y.drew=wD at*;refine tkH 0 hHeld ?_;refine tkH 1 hHeld ?_;refine tkH 2 hHeld ?_;refine tkH 3 hHeld ?_;refine tkH 4 hHeld ?_;refine tkH 5 hHeld ?_;refine tkH 6 hHeld ?_;refine rdyH [7] ?_;refine rcH (fun K hK=>?_) AllReadyH.nil;have nE:=(HBX.out wD bY).1;obtain⟨y0,g0⟩:=aA1 nE 0 (by simp)
   obtain⟨y1,g1⟩:=aA1 nE 1 (by simp)
   obtain⟨y2,g2⟩:=aA1 nE 2 (by simp)
   obtain⟨y3,g3⟩:=aA1 nE 3 (by simp)
   obtain⟨y4,g4⟩:=aA1 nE 4 (by simp)
   obtain⟨y5,g5⟩:=aA1 nE 5 (by simp)
   obtain⟨y6,g6⟩:=aA1 nE 6 (by simp)
   obtain⟨y7,g7⟩:=aA1 nE 7 (by simp)
   go_simp
   refine hK.out _ _ (HST.out wD bY) (fun hHeld=>?_);clear hK K;try simp only[Act.put,sIA,sI0,sIS]
   refine tkH 8 hHeld ?_;refine wpAnyH_done (by kernel_rfl) ?_ _
   have HR9:=aA0 (HR8.out wD bY);have HFF:=aA0 (HFIN.out wD bY);go_wp2_with fail
   exact bodyPost_ret (aIH _ _ (w.heap.size+1+1) _ _ _ _ _ _ _ _ _ rfl rfl HR9.out) rfl HFF.out
end Go.Proofs.YtcebpkeiaiiphaaGreatDoor
