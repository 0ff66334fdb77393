import Derived.Test.YtcebpkeiaiiphaaGreatDoorRC46
set_option linter.unusedSimpArgs false
set_option linter.unusedVariables false
namespace Go.Proofs.YtcebpkeiaiiphaaGreatDoor
open Go.RowKit Go.Maps
set_option maxRecDepth 20000 in
set_option maxHeartbeats 3200000 in
theorem aMA(ps:List Pt)(w:World)(B:Nat)(a:Option Addr)(c:Nat)(hc:ps.length<=c)(hR:aAP w (·<B) ps a)(hB:B<=w.heap.size)(hz:∀i,i<ps.length->szP (pth ps i)<=1048576)(hG:GErr w)(hE:aDK ps=true)(hX:aBA ps okP=true):
  Calls Tryz.prog 53 #[.slice a ps.length c] w (aJF ps w):=by
 obtain⟨hl,hok⟩:=aOQ hE;have b0:=aA2 w (.cells #[.string ⟨#[]⟩,.slice none 0 0,.slice none 0 0] 49);have n0:=aA3 (w:=w) (N:=w.heap.size) #[.string ⟨#[]⟩,.slice none 0 0,.slice none 0 0] 49 rfl;have z0:w.heap.size<(w.alloc (.cells #[.string ⟨#[]⟩,.slice none 0 0,.slice none 0 0] 49)).heap.size:=by simp
 have HC:=aA0 (aEY ps _ B a c hc (hR.under (b0.mono hB)) (by omega) hz (hG.on b0))
 have HCB:Hid (aBA ps okP=(aE4 ps&&aE5 ps&&okP (allM ps))):=aA0 (by rw[aHT,hE,aKS hok];rfl)
 rw[hE] at HC;have HRP:Hid (∀W,Below w.heap.size w W->aAP W (·<B) ps a):=aA0 fun W hW=>hR.under (hW.mono hB);have HGE:Hid (∀W,Below w.heap.size w W->GErr W):=aA0 fun W hW=>hG.on hW;have HGX:Hid (∃T v,Hid (∀W,Below w.heap.size w W->W.cell? ⟨0,0,none⟩=some (.iface T v))):=aA0 (by
  obtain⟨T,v,g⟩:=hG 0 (by omega)
  exact⟨T,v,aA0 fun W hW=>(hW.cell (aAA g)).trans g⟩)
 have HLO:=aA0 (And.intro hl (And.intro hok hB));have HSV:Hid (∀W,Below w.heap.size w W->Calls Tryz.prog 80 #[.slice a ps.length c] W fun e w'=>∃V:Sv,e=.returned (.agg (V.cells (.slice a ps.length c)))∧SuL w' (·<B) (W.heap.size+1) (suM ps) 1000 V∧Below W.heap.size W w'):=aA0 fun W hW=>aI6 ps W B a c (hR.under (hW.mono hB)) (by have:=hW.size;omega) hl hok
 obtain⟨pl,HPL⟩:∃x,Hid (x=ps.length):=⟨_,aA0 rfl⟩;rw[<-HPL.out] at HC HSV ⊢;clear hc hR hB hz hG hE hl hok;go_enter Tryz.func53,Tryz.ntmps53
 go_upto_region 1 with fail
 generalize w.alloc (.cells #[.string ⟨#[]⟩,.slice none 0 0,.slice none 0 0] 49)=w0 at*;have HBX:Hid (∀W,Below w0.heap.size w0 W->W.heap[w.heap.size]?=some (.cells #[.string ⟨#[]⟩,.slice none 0 0,.slice none 0 0] 49 (0,0))):=aA0 fun W hW=>(hW.block w.heap.size z0).trans n0;have HBW:Hid (∀W,Below w0.heap.size w0 W->Below w.heap.size w W):=aA0 fun W hW=>b0.trans (hW.mono (by omega))
 have HZ0:=aA0 z0;clear b0 n0 z0;go_upto_region 4 with(
  go_at_call 79
  refine HC.out.mono ?_;rintro e w1 ⟨⟨ev,rfl,hF,-⟩,b1⟩;obtain rfl:=hF rfl)
 clear HC;go_upto_region 5 with(
  go_at_call 80
  refine(HSV.out w1 (HBW.out w1 b1)).mono ?_;rintro e w2 ⟨V,rfl,hS,b2⟩;obtain⟨p1,r1,k1,p2,r2,k2,p3,r3,k3,p4,r4,k4,HV⟩:=hS.form (.slice a pl c);rw[HV])
 have HB2:=aA0 (b1.trans (b2.mono b1.size));have hm:=hS.l1.mlt;have hz01:=b1.size;have hBw:=HLO.out.2.2;have hzw:=(HBW.out w1 b1).size;have HSU:Hid (∀W,Below w2.heap.size w2 W->SuL W (·<B) (w1.heap.size+1) (suM ps) 1000 V):=aA0 fun W hW=>hS.under (fun b hb=>by have hb:b<B:=hb;omega) (by omega) hW
 have hlo2:w1.heap.size+1<=w2.heap.size:=by omega
 have HB1Z:Hid (w0.heap.size<=w1.heap.size):=aA0 hz01;have HXX:=aA0 hX;have hBP:∀b,b<B->b<w1.heap.size+1:=fun b hb=>by omega
 have HBP:=aA0 hBP;have HW2:Hid (∀W,Below w2.heap.size w2 W->Below w.heap.size w W):=aA0 fun W hW=>HBW.out W (HB2.out.trans (hW.mono HB2.out.size));have HCA:Hid (∀W,Below w2.heap.size w2 W->Calls Tryz.prog 81 #[.agg #[.slice a pl c,.slice p1 r1 k1,.map (some V.m1),.slice p2 r2 k2,.map (some V.m2),.slice p3 r3 k3,.map (some V.m3),.slice p4 r4 k4,.map (some V.m4)]] W fun e w'=>aD1 (aE4 ps) e∧Below W.heap.size W w'):=aA0 fun W hW=>by
  have h:=aGA ps W B (w1.heap.size+1) 1000 V a c (HSU.out W hW) HBP.out (by have:=hW.size;omega) (by omega) (HRP.out W (HW2.out W hW)) HLO.out.1 HLO.out.2.1 (HGE.out W (HW2.out W hW))
  rw[<-HPL.out,HV] at h;exact h
 have HCK:Hid (∀W,Below w2.heap.size w2 W->Calls Tryz.prog 82 #[.agg #[.slice a pl c,.slice p1 r1 k1,.map (some V.m1),.slice p2 r2 k2,.map (some V.m2),.slice p3 r3 k3,.map (some V.m3),.slice p4 r4 k4,.map (some V.m4)]] W fun e w'=>aD1 (aE5 ps) e∧Below W.heap.size W w'):=aA0 fun W hW=>by
  have h:=aG2 ps W B (w1.heap.size+1) 1000 V a c (HSU.out W hW) HBP.out (by have:=hW.size;omega) (by omega) (HRP.out W (HW2.out W hW)) HLO.out.1 HLO.out.2.1 (HGE.out W (HW2.out W hW))
  rw[<-HPL.out,HV] at h;exact h
 have HAL:Hid (∀W,Below w2.heap.size w2 W->Calls Tryz.prog 83 #[.agg #[.slice a pl c,.slice p1 r1 k1,.map (some V.m1),.slice p2 r2 k2,.map (some V.m2),.slice p3 r3 k3,.map (some V.m3),.slice p4 r4 k4,.map (some V.m4)]] W fun e w'=>∃ta tc,e=.returned (.agg #[.string ⟨#[97]⟩,.slice ta (allM ps).types.length tc])∧Below W.heap.size W w'∧PRep w' (fun b=>W.heap.size<=b∧b<w'.heap.size) (allM ps) (.agg #[.string ⟨#[97]⟩,.slice ta (allM ps).types.length tc])):=aA0 fun W hW=>by
  have h:=aPE ps W B (w1.heap.size+1) 1000 V a c (HSU.out W hW) HBP.out (by have:=hW.size;omega) (by omega) HLO.out.1 HLO.out.2.1
  rw[<-HPL.out,HV] at h;refine h.mono fun e w' hE=>?_;obtain⟨ov,rfl,h2,h3⟩:=hE;have h3':=h3;obtain⟨ta,tc,e,-⟩:=h3';simp only[Value.agg.injEq,Array.mk.injEq,List.cons.injEq,and_true] at e;obtain⟨-,rfl⟩:=e;exact⟨ta,tc,rfl,h2,h3⟩
 have HOO:Hid (∀W,Below w2.heap.size w2 W->∀ta tc,PRep W (·<W.heap.size) (allM ps) (.agg #[.string ⟨#[97]⟩,.slice ta (allM ps).types.length tc])->Calls Tryz.prog 84 #[.agg #[.slice a pl c,.slice p1 r1 k1,.map (some V.m1),.slice p2 r2 k2,.map (some V.m2),.slice p3 r3 k3,.map (some V.m3),.slice p4 r4 k4,.map (some V.m4)],.agg #[.string ⟨#[97]⟩,.slice ta (allM ps).types.length tc]] W fun e w'=>∃oa oc,e=.returned (.slice oa (ownT ps (allM ps) (allM ps).types.length).length oc)∧Below W.heap.size W w'∧(ownT ps (allM ps) (allM ps).types.length).length<=oc∧aHP w' (fun b=>w1.heap.size+1<=b∧b<w'.heap.size) (ownT ps (allM ps) (allM ps).types.length) oa):=aA0 fun W hW ta tc hA=>by
  have h:=aI0 ps (HSU.out W hW) HBP.out (by have:=hW.size;omega) (by omega) HLO.out.2.1 a ps.length c (allM ps) ta tc ⟨#[97]⟩ hA (aHH ps HLO.out.1 HLO.out.2.1)
  rw[<-HPL.out,HV] at h;exact h
 have b3:=aA2 w2 (.cells #[.slice a pl c,.slice p1 r1 k1,.map (some V.m1),.slice p2 r2 k2,.map (some V.m2),.slice p3 r3 k3,.map (some V.m3),.slice p4 r4 k4,.map (some V.m4)] 146);have n3:=aA3 (w:=w2) (N:=w2.heap.size) #[.slice a pl c,.slice p1 r1 k1,.map (some V.m1),.slice p2 r2 k2,.map (some V.m2),.slice p3 r3 k3,.map (some V.m3),.slice p4 r4 k4,.map (some V.m4)] 146 rfl;have z3:w2.heap.size<(w2.alloc (.cells #[.slice a pl c,.slice p1 r1 k1,.map (some V.m1),.slice p2 r2 k2,.map (some V.m2),.slice p3 r3 k3,.map (some V.m3),.slice p4 r4 k4,.map (some V.m4)] 146)).heap.size:=by simp
 generalize w2.alloc (.cells #[.slice a pl c,.slice p1 r1 k1,.map (some V.m1),.slice p2 r2 k2,.map (some V.m2),.slice p3 r3 k3,.map (some V.m3),.slice p4 r4 k4,.map (some V.m4)] 146)=w3 at*;have HNB2:Hid (∀W,Below w3.heap.size w3 W->W.heap[w2.heap.size]?=some (.cells #[.slice a pl c,.slice p1 r1 k1,.map (some V.m1),.slice p2 r2 k2,.map (some V.m2),.slice p3 r3 k3,.map (some V.m3),.slice p4 r4 k4,.map (some V.m4)] 146 (0,0))):=aA0 fun W hW=>(hW.block w2.heap.size z3).trans n3;have HSB:Hid (∀W,Below w3.heap.size w3 W->W.cell? ⟨w2.heap.size,0,none⟩=some (.slice a pl c)∧W.cell? ⟨w2.heap.size,1,none⟩=some (.slice p1 r1 k1)∧W.cell? ⟨w2.heap.size,2,none⟩=some (.map (some V.m1))∧W.cell? ⟨w2.heap.size,3,none⟩=some (.slice p2 r2 k2)∧W.cell? ⟨w2.heap.size,4,none⟩=some (.map (some V.m2))∧W.cell? ⟨w2.heap.size,5,none⟩=some (.slice p3 r3 k3)∧W.cell? ⟨w2.heap.size,6,none⟩=some (.map (some V.m3))∧W.cell? ⟨w2.heap.size,7,none⟩=some (.slice p4 r4 k4)∧W.cell? ⟨w2.heap.size,8,none⟩=some (.map (some V.m4))):=aA0 fun W hW=>by
  have h:=(hW.block w2.heap.size z3).trans n3;exact⟨(aA1 h 0 (by simp)).1,(aA1 h 1 (by simp)).1,(aA1 h 2 (by simp)).1,(aA1 h 3 (by simp)).1,(aA1 h 4 (by simp)).1,(aA1 h 5 (by simp)).1,(aA1 h 6 (by simp)).1,(aA1 h 7 (by simp)).1,(aA1 h 8 (by simp)).1⟩
 have HW3:Hid (∀W,Below w3.heap.size w3 W->Below w2.heap.size w2 W):=aA0 fun W hW=>b3.trans (hW.mono b3.size);have H23:Hid (∀W,Below w3.heap.size w3 W->Below w0.heap.size w0 W):=aA0 fun W hW=>HB2.out.trans ((HW3.out W hW).mono HB2.out.size);obtain⟨s0,s1,s2,s3,s4,s5,s6,s7,s8⟩:=HSB.out w3 (Below.refl _ _);clear hS HV hm hz01 hBw hzw hlo2 hBP b1 b2 b3 n3 z3 HSV;have hAKO:aE4 ps=true∧aE5 ps=true∧okP (allM ps)=true:=by
  have:=hX;rw[HCB.out] at this;simpa[Bool.and_eq_true,and_assoc] using this
 obtain⟨hA,hK,hO⟩:=hAKO;rw[hA] at HCA;go_upto_region 8 with(
  go_at_call 81
  refine(HCA.out w3 (HW3.out w3 (Below.refl _ _))).mono ?_;rintro e w4 ⟨⟨ev,rfl,hF,-⟩,b4⟩;obtain rfl:=hF rfl)
 clear s0 s1 s2 s3 s4 s5 s6 s7 s8 HCA;obtain⟨s0,s1,s2,s3,s4,s5,s6,s7,s8⟩:=HSB.out w4 b4;rw[hK] at HCK;go_upto_region 11 with(
  go_at_call 82
  refine(HCK.out w4 (HW3.out w4 b4)).mono ?_;rintro e w5 ⟨⟨ev,rfl,hF,-⟩,b5⟩;obtain rfl:=hF rfl)
 clear s0 s1 s2 s3 s4 s5 s6 s7 s8 HCK;have b35:=b4.trans (b5.mono b4.size);obtain⟨s0,s1,s2,s3,s4,s5,s6,s7,s8⟩:=HSB.out w5 b35;obtain⟨al,HAN⟩:∃x,Hid (x=(allM ps).types.length):=⟨_,aA0 rfl⟩;rw[<-HAN.out] at HAL;go_upto_region 12 with(
  go_at_call 83
  refine(HAL.out w5 (HW3.out w5 b35)).mono ?_;rintro e w6 ⟨ta,tc,rfl,b6,hP6⟩)
 clear s0 s1 s2 s3 s4 s5 s6 s7 s8 HAL;have b36:=b35.trans (b6.mono b35.size);have HPN:Hid (∀W,Below w6.heap.size w6 W->PRep W (fun b=>w5.heap.size<=b∧b<W.heap.size) (allM ps) (.agg #[.string ⟨#[97]⟩,.slice ta al tc])):=aA0 fun W hW=>(hP6.mono fun b hb=>hW.block b hb.2).sub fun b hb=>⟨hb.1,Nat.lt_of_lt_of_le hb.2 hW.size⟩;have HZ35:=aA0 b35.size;have HPW:Hid (∀W,Below w6.heap.size w6 W->PRep W (·<W.heap.size) (allM ps) (.agg #[.string ⟨#[97]⟩,.slice ta al tc])):=aA0 fun W hW=>(hP6.mono fun b hb=>hW.block b hb.2).sub fun b hb=>Nat.lt_of_lt_of_le hb.2 hW.size;have b7:=aA2 w6 (.cells #[.string ⟨#[97]⟩,.slice ta al tc] 46);have n7:=aA3 (w:=w6) (N:=w6.heap.size) #[.string ⟨#[97]⟩,.slice ta al tc] 46 rfl;have z7:w6.heap.size<(w6.alloc (.cells #[.string ⟨#[97]⟩,.slice ta al tc] 46)).heap.size:=by simp
 generalize w6.alloc (.cells #[.string ⟨#[97]⟩,.slice ta al tc] 46)=w7 at*;have HB7:=aA0 (b36.trans (b7.mono b36.size));have HW6':Hid (∀W,Below w7.heap.size w7 W->Below w6.heap.size w6 W):=aA0 fun W hW=>b7.trans (hW.mono (by omega))
 have HNB7:Hid (∀W,Below w7.heap.size w7 W->W.heap[w6.heap.size]?=some (.cells #[.string ⟨#[97]⟩,.slice ta al tc] 46 (0,0))):=aA0 fun W hW=>(hW.block w6.heap.size z7).trans n7;have HN7:Hid (∀W,Below w7.heap.size w7 W->W.cell? ⟨w6.heap.size,0,none⟩=some (.string ⟨#[97]⟩)∧W.cell? ⟨w6.heap.size,1,none⟩=some (.slice ta al tc)):=aA0 fun W hW=>by
  have h:=(hW.block w6.heap.size z7).trans n7;exact⟨(aA1 h 0 (by simp)).1,(aA1 h 1 (by simp)).1⟩
 have HCP:=aA0 (aCR (allM ps) w7 w7.heap.size _ (HPW.out w7 b7) (Nat.le_refl _) (aHH ps HLO.out.1 HLO.out.2.1));have HZ7:=aA0 z7;have HB36:=aA0 b36.size;clear b6 hP6 b7 n7 z7 b36 b35 b5 b4;obtain⟨q0,q1⟩:=HN7.out w7 (Below.refl _ _);have HCP':=HCP.out;rw[aFT _ hO] at HCP';replace HCP:=aA0 HCP'
 clear HCP';go_upto_region 14 with(
  go_at_call 66
  refine HCP.out.mono ?_;rintro e w8 ⟨rfl,b8⟩)
 clear q0 q1 HCP;rw[<-HAN.out] at HOO;obtain⟨ol,HOL⟩:∃x,Hid (x=(ownT ps (allM ps) al).length):=⟨_,aA0 rfl⟩;rw[<-HOL.out] at HOO;have HB8:=aA0 b8;have HX7:Hid (∀W,Below w8.heap.size w8 W->Below w7.heap.size w7 W):=aA0 fun W hW=>HB8.out.trans (hW.mono HB8.out.size);have HX3:Hid (∀W,Below w8.heap.size w8 W->Below w3.heap.size w3 W):=aA0 fun W hW=>HB7.out.trans ((HX7.out W hW).mono HB7.out.size);have HW7:Hid (∀W,Below w8.heap.size w8 W->Below w2.heap.size w2 W):=aA0 fun W hW=>HW3.out W (HX3.out W hW);have HW8:Hid (∀W,Below w8.heap.size w8 W->Below w0.heap.size w0 W):=aA0 fun W hW=>H23.out W (HX3.out W hW);have HW6:Hid (∀W,Below w8.heap.size w8 W->Below w6.heap.size w6 W):=aA0 fun W hW=>HW6'.out W (HX7.out W hW);have HS8:Hid (∀W,Below w8.heap.size w8 W->(W.cell? ⟨w2.heap.size,0,none⟩=some (.slice a pl c)∧W.cell? ⟨w2.heap.size,1,none⟩=some (.slice p1 r1 k1)∧W.cell? ⟨w2.heap.size,2,none⟩=some (.map (some V.m1))∧W.cell? ⟨w2.heap.size,3,none⟩=some (.slice p2 r2 k2)∧W.cell? ⟨w2.heap.size,4,none⟩=some (.map (some V.m2))∧W.cell? ⟨w2.heap.size,5,none⟩=some (.slice p3 r3 k3)∧W.cell? ⟨w2.heap.size,6,none⟩=some (.map (some V.m3))∧W.cell? ⟨w2.heap.size,7,none⟩=some (.slice p4 r4 k4)∧W.cell? ⟨w2.heap.size,8,none⟩=some (.map (some V.m4)))∧W.cell? ⟨w6.heap.size,0,none⟩=some (.string ⟨#[97]⟩)∧W.cell? ⟨w6.heap.size,1,none⟩=some (.slice ta al tc)):=aA0 fun W hW=>⟨HSB.out W (HX3.out W hW),HN7.out W (HX7.out W hW)⟩
 have HFIN:Hid (∀W,Below w8.heap.size w8 W->∀oa oc,(ol<=oc∧aHP W (fun b=>w1.heap.size+1<=b∧b<W.heap.size) (ownT ps (allM ps) al) oa)->(((((W.setCell ⟨w.heap.size,0,none⟩ (.string ⟨#[97]⟩)).setCell ⟨w.heap.size,1,none⟩ (.slice ta al tc)).setCell ⟨w.heap.size,2,none⟩ (.slice oa ol oc)).cell? ⟨w2.heap.size,0,none⟩=some (.slice a pl c)∧(((W.setCell ⟨w.heap.size,0,none⟩ (.string ⟨#[97]⟩)).setCell ⟨w.heap.size,1,none⟩ (.slice ta al tc)).setCell ⟨w.heap.size,2,none⟩ (.slice oa ol oc)).cell? ⟨w2.heap.size,1,none⟩=some (.slice p1 r1 k1)∧(((W.setCell ⟨w.heap.size,0,none⟩ (.string ⟨#[97]⟩)).setCell ⟨w.heap.size,1,none⟩ (.slice ta al tc)).setCell ⟨w.heap.size,2,none⟩ (.slice oa ol oc)).cell? ⟨w2.heap.size,2,none⟩=some (.map (some V.m1))∧(((W.setCell ⟨w.heap.size,0,none⟩ (.string ⟨#[97]⟩)).setCell ⟨w.heap.size,1,none⟩ (.slice ta al tc)).setCell ⟨w.heap.size,2,none⟩ (.slice oa ol oc)).cell? ⟨w2.heap.size,3,none⟩=some (.slice p2 r2 k2)∧(((W.setCell ⟨w.heap.size,0,none⟩ (.string ⟨#[97]⟩)).setCell ⟨w.heap.size,1,none⟩ (.slice ta al tc)).setCell ⟨w.heap.size,2,none⟩ (.slice oa ol oc)).cell? ⟨w2.heap.size,4,none⟩=some (.map (some V.m2))∧(((W.setCell ⟨w.heap.size,0,none⟩ (.string ⟨#[97]⟩)).setCell ⟨w.heap.size,1,none⟩ (.slice ta al tc)).setCell ⟨w.heap.size,2,none⟩ (.slice oa ol oc)).cell? ⟨w2.heap.size,5,none⟩=some (.slice p3 r3 k3)∧(((W.setCell ⟨w.heap.size,0,none⟩ (.string ⟨#[97]⟩)).setCell ⟨w.heap.size,1,none⟩ (.slice ta al tc)).setCell ⟨w.heap.size,2,none⟩ (.slice oa ol oc)).cell? ⟨w2.heap.size,6,none⟩=some (.map (some V.m3))∧(((W.setCell ⟨w.heap.size,0,none⟩ (.string ⟨#[97]⟩)).setCell ⟨w.heap.size,1,none⟩ (.slice ta al tc)).setCell ⟨w.heap.size,2,none⟩ (.slice oa ol oc)).cell? ⟨w2.heap.size,7,none⟩=some (.slice p4 r4 k4)∧(((W.setCell ⟨w.heap.size,0,none⟩ (.string ⟨#[97]⟩)).setCell ⟨w.heap.size,1,none⟩ (.slice ta al tc)).setCell ⟨w.heap.size,2,none⟩ (.slice oa ol oc)).cell? ⟨w2.heap.size,8,none⟩=some (.map (some V.m4)))∧(((W.setCell ⟨w.heap.size,0,none⟩ (.string ⟨#[97]⟩)).setCell ⟨w.heap.size,1,none⟩ (.slice ta al tc)).setCell ⟨w.heap.size,2,none⟩ (.slice oa ol oc)).cell? ⟨w6.heap.size,0,none⟩=some (.string ⟨#[97]⟩)∧(((W.setCell ⟨w.heap.size,0,none⟩ (.string ⟨#[97]⟩)).setCell ⟨w.heap.size,1,none⟩ (.slice ta al tc)).setCell ⟨w.heap.size,2,none⟩ (.slice oa ol oc)).cell? ⟨w6.heap.size,1,none⟩=some (.slice ta al tc))∧aJF ps w (.returned (.tuple #[.agg #[.string ⟨#[97]⟩,.slice ta al tc,.slice oa ol oc],.nilIface])) ((((W.setCell ⟨w.heap.size,0,none⟩ (.string ⟨#[97]⟩)).setCell ⟨w.heap.size,1,none⟩ (.slice ta al tc)).setCell ⟨w.heap.size,2,none⟩ (.slice oa ol oc)))):=aA0 fun W hW oa oc ho=>by
  have u0:=HZ0.out;have u1:=HB1Z.out;have u2:=HB2.out.size;have u3:=(HW3.out w3 (Below.refl _ _)).size;have u4:=HZ35.out;have u6:=HB36.out;have hne:∀b,b≠w.heap.size->((((W.setCell ⟨w.heap.size,0,none⟩ (.string ⟨#[97]⟩)).setCell ⟨w.heap.size,1,none⟩ (.slice ta al tc)).setCell ⟨w.heap.size,2,none⟩ (.slice oa ol oc))).heap[b]?=W.heap[b]?:=fun b hb=>by
   rw[Below.heap_setCell _ _ _ _ (by exact hb),Below.heap_setCell _ _ _ _ (by exact hb),Below.heap_setCell _ _ _ _ (by exact hb)]
  have hsz:((((W.setCell ⟨w.heap.size,0,none⟩ (.string ⟨#[97]⟩)).setCell ⟨w.heap.size,1,none⟩ (.slice ta al tc)).setCell ⟨w.heap.size,2,none⟩ (.slice oa ol oc))).heap.size=W.heap.size:=by simp
  have h2:=(hne w2.heap.size (by omega)).trans (HNB2.out W (HX3.out W hW))
  have h7:=(hne w6.heap.size (by omega)).trans (HNB7.out W (HX7.out W hW))
  have hbw:Below w.heap.size w ((((W.setCell ⟨w.heap.size,0,none⟩ (.string ⟨#[97]⟩)).setCell ⟨w.heap.size,1,none⟩ (.slice ta al tc)).setCell ⟨w.heap.size,2,none⟩ (.slice oa ol oc))):=(((HBW.out W (HW8.out W hW)).setCell (p:=⟨w.heap.size,0,none⟩) (Nat.le_refl _) _).setCell (p:=⟨w.heap.size,1,none⟩) (Nat.le_refl _) _).setCell (p:=⟨w.heap.size,2,none⟩) (Nat.le_refl _) _;have hPn:=HPN.out W (HW6.out W hW);generalize (((W.setCell ⟨w.heap.size,0,none⟩ (.string ⟨#[97]⟩)).setCell ⟨w.heap.size,1,none⟩ (.slice ta al tc)).setCell ⟨w.heap.size,2,none⟩ (.slice oa ol oc))=WZ at*;refine⟨⟨⟨(aA1 h2 0 (by simp)).1,(aA1 h2 1 (by simp)).1,(aA1 h2 2 (by simp)).1,(aA1 h2 3 (by simp)).1,(aA1 h2 4 (by simp)).1,(aA1 h2 5 (by simp)).1,(aA1 h2 6 (by simp)).1,(aA1 h2 7 (by simp)).1,(aA1 h2 8 (by simp)).1⟩,(aA1 h7 0 (by simp)).1,(aA1 h7 1 (by simp)).1⟩,_,_,rfl,⟨_,_,_,_,_,_,_,rfl⟩,hbw,fun _=>⟨rfl,?_⟩,fun h=>by rw[HXX.out] at h;cases h⟩
  refine⟨ta,oa,tc,oc,?_,?_,?_,?_⟩
  ·show _=Value.agg #[.string ⟨#[97]⟩,.slice ta (allM ps).types.length tc,.slice oa (ownT ps (allM ps) (allM ps).types.length).length oc];rw[<-HAN.out,<-HOL.out]
  ·show PRep WZ (fun b=>w.heap.size<b∧b<WZ.heap.size) (allM ps) (.agg #[.string ⟨#[97]⟩,.slice ta (allM ps).types.length tc]);rw[<-HAN.out];exact(hPn.mono fun b hb=>hne b (by omega)).sub fun b hb=>by omega
  ·show aHP WZ (fun b=>w.heap.size<b∧b<WZ.heap.size) (ownT ps (allM ps) (allM ps).types.length) oa;rw[<-HAN.out];exact(ho.2.mono fun b hb=>hne b (by omega)).sub fun b hb=>by omega
  ·show(ownT ps (allM ps) (allM ps).types.length).length<=oc;rw[<-HAN.out,<-HOL.out];exact ho.1
 have bX:Below w8.heap.size w8 w8.drew:=(Below.refl _ _).drew;clear b8;refine wp_region_held_drew (S:=(fun W=>(W.cell? ⟨w2.heap.size,0,none⟩=some (.slice a pl c)∧W.cell? ⟨w2.heap.size,1,none⟩=some (.slice p1 r1 k1)∧W.cell? ⟨w2.heap.size,2,none⟩=some (.map (some V.m1))∧W.cell? ⟨w2.heap.size,3,none⟩=some (.slice p2 r2 k2)∧W.cell? ⟨w2.heap.size,4,none⟩=some (.map (some V.m2))∧W.cell? ⟨w2.heap.size,5,none⟩=some (.slice p3 r3 k3)∧W.cell? ⟨w2.heap.size,6,none⟩=some (.map (some V.m3))∧W.cell? ⟨w2.heap.size,7,none⟩=some (.slice p4 r4 k4)∧W.cell? ⟨w2.heap.size,8,none⟩=some (.map (some V.m4)))∧W.cell? ⟨w6.heap.size,0,none⟩=some (.string ⟨#[97]⟩)∧W.cell? ⟨w6.heap.size,1,none⟩=some (.slice ta al tc))) (by kernel_rfl) (HS8.out _ bX) (fun hHeld=>?_)
 generalize w8.drew=wD at*;refine tkH 0 hHeld ?_;refine tkH 1 hHeld ?_;refine tkH 2 hHeld ?_;refine rdyH [3] ?_;refine rcH (fun K hK=>?_) AllReadyH.nil;go_simp
 refine(HOO.out wD (HW7.out wD bX) ta tc (HPW.out wD (HW6.out wD bX))).mono ?_;rintro e wO ⟨oa,oc,rfl,bO,hoc,hOs⟩;have bX:=bX.trans (bO.mono bX.size);have HOS:=aA0 (And.intro hoc hOs);clear bO hoc hOs;refine hK.out _ _ (HS8.out _ bX) (fun hHeld=>?_);clear hK K;try simp only[Act.put,sIA,sI0,sIS]
 refine tkH 4 hHeld ?_;refine rdyH [5] ?_;refine rcH (fun K hK=>?_) AllReadyH.nil;have nE:=HBX.out wO (HW8.out wO bX);obtain⟨o0,y0⟩:=aA1 nE 0 (by simp)
 obtain⟨o1,y1⟩:=aA1 nE 1 (by simp)
 obtain⟨o2,y2⟩:=aA1 nE 2 (by simp)
 simp only[List.getElem_toArray,List.getElem_cons_zero,List.getElem_cons_succ] at o0 o1 o2;have HRR:=aA0 (aDM nE (.string ⟨#[97]⟩) (.slice ta al tc) (.slice oa ol oc));have HFF:=aA0 (HFIN.out wO bX oa oc HOS.out);clear nE;go_simp
 clear o0 o1 o2 y0 y1 y2;refine hK.out _ _ HFF.out.1 (fun hHeld=>?_);clear hK K;try simp only[Act.put,sIA,sI0,sIS]
 refine tkH 6 hHeld ?_;refine wpAnyH_done (by kernel_rfl) ?_ _
 go_wp2_with fail
 have e0:=(aA1 HRR.out 0 (by simp)).1
 have e1:=(aA1 HRR.out 1 (by simp)).1
 have e2:=(aA1 HRR.out 2 (by simp)).1
 exact bodyPost_ret (aH1 _ _ w.heap.size _ _ _ undef .nilIface rfl rfl e0 e1 e2) rfl HFF.out.2
theorem aOD(ps:List Pt)(w:World)(B:Nat)(a:Option Addr)(c:Nat)(hc:ps.length<=c)(hR:aAP w (·<B) ps a)(hB:B<=w.heap.size)(hz:∀i,i<ps.length->szP (pth ps i)<=1048576)(hG:GErr w):
  Calls Tryz.prog 53 #[.slice a ps.length c] w (aJF ps w):=by
 cases hE:aDK ps
 ·exact aMB ps w B a c hc hR hB hz hG hE
 ·cases hX:aBA ps okP
  ·exact aNI ps w B a c hc hR hB hz hG hE hX
  ·exact aMA ps w B a c hc hR hB hz hG hE hX
theorem aIG(FW:World)(tmps:Array Value)(N:Nat)(v0 v1 v2 ok:Value)(h2:tmps.getD 2 undef=.pointer (some ⟨N,0,none⟩))(h3:tmps.getD 3 undef=ok)(d0:FW.cell? ⟨N,0,none⟩=some v0)(d1:FW.cell? ⟨N,1,none⟩=some v1)(d2:FW.cell? ⟨N,2,none⟩=some v2):
  (results Tryz.f29 tmps).run Tryz.prog FW=.ok (.tuple #[.agg #[v0,v1,v2],ok]) FW:=by
 simp only[Array.getD_eq_getD_getElem?] at h2 h3;simp[results,Tryz.results29,go_sem,h2,h3,d0,d1,d2]
set_option maxRecDepth 20000 in
set_option maxHeartbeats 3200000 in
theorem aH8(ps:List Pt)(w:World)(B:Nat)(a:Option Addr)(c:Nat)(hc:ps.length<=c)(hR:aAP w (·<B) ps a)(hB:B<=w.heap.size)(hz:∀i,i<ps.length->szP (pth ps i)<=1048576)(hG:GErr w):
  Calls Tryz.prog 29 #[.slice a ps.length c] w fun e w'=>∃s ta tn tc,e=.returned (.tuple #[.agg #[.slice a ps.length c,.string s,.slice ta tn tc],.bool (aBA ps okP)])∧Below w.heap.size w w'∧(aBA ps okP=true->PRep w' (fun b=>w.heap.size<b∧b<w'.heap.size) (allM ps) (.agg #[.string s,.slice ta tn tc])):=by
 have b0:=aA2 w (.cells #[.slice none 0 0,.string ⟨#[]⟩,.slice none 0 0] 61);have n0:=aA3 (w:=w) (N:=w.heap.size) #[.slice none 0 0,.string ⟨#[]⟩,.slice none 0 0] 61 rfl;have z0:w.heap.size<(w.alloc (.cells #[.slice none 0 0,.string ⟨#[]⟩,.slice none 0 0] 61)).heap.size:=by simp
 have HC:=aA0 (aOD ps _ B a c hc (hR.under (b0.mono hB)) (by omega) hz (hG.on b0))
 obtain⟨pl,HPL⟩:∃x,Hid (x=ps.length):=⟨_,aA0 rfl⟩;rw[<-HPL.out] at HC ⊢;obtain⟨bb,HBB⟩:∃x,Hid (x=aBA ps okP):=⟨_,aA0 rfl⟩;rw[<-HBB.out];clear hc hR hB hz hG;go_enter Tryz.func29,Tryz.ntmps29
 go_upto_region 1 with fail
 generalize w.alloc (.cells #[.slice none 0 0,.string ⟨#[]⟩,.slice none 0 0] 61)=w0 at*;cases bb
 ·go_upto_region 2 with(
   go_at_call 53
   refine HC.out.mono ?_;rintro e w1 ⟨ch,er,rfl,⟨s,x1,x2,x3,y1,y2,y3,rfl⟩,b1,-,hF⟩;obtain⟨T,v,rfl⟩:=hF HBB.out.symm)
  have HPP:Hid (false=true->PRep w1 (fun b=>w0.heap.size<b∧b<w1.heap.size) (allM ps) (.agg #[.string s,.slice x1 x2 x3])):=aA0 fun h=>by cases h
  have z1:=b1.size;have b2:=aA2 w1 (.cells #[.string s,.slice x1 x2 x3,.slice y1 y2 y3] 49);have n2:=aA3 (w:=w1) (N:=w1.heap.size) #[.string s,.slice x1 x2 x3,.slice y1 y2 y3] 49 rfl;have z2:w1.heap.size<(w1.alloc (.cells #[.string s,.slice x1 x2 x3,.slice y1 y2 y3] 49)).heap.size:=by simp
  have b12:=b1.trans (b2.mono z1);generalize w1.alloc (.cells #[.string s,.slice x1 x2 x3,.slice y1 y2 y3] 49)=w2 at*;have HBX:Hid (∀W,Below w2.heap.size w2 W->W.heap[w.heap.size]?=some (.cells #[.slice none 0 0,.string ⟨#[]⟩,.slice none 0 0] 61 (0,0))∧W.heap[w1.heap.size]?=some (.cells #[.string s,.slice x1 x2 x3,.slice y1 y2 y3] 49 (0,0))):=aA0 fun W hW=>⟨((b12.trans (hW.mono b12.size)).block w.heap.size z0).trans n0,(hW.block w1.heap.size z2).trans n2⟩;have HS:Hid (∀W,Below w2.heap.size w2 W->W.cell? ⟨w1.heap.size,0,none⟩=some (.string s)∧W.cell? ⟨w1.heap.size,1,none⟩=some (.slice x1 x2 x3)):=aA0 fun W hW=>by
   have h:=(HBX.out W hW).2;exact⟨(aA1 h 0 (by simp)).1,(aA1 h 1 (by simp)).1⟩
  have HFIN:Hid (∀W,Below w2.heap.size w2 W->((((W.setCell ⟨w.heap.size,0,none⟩ (.slice a pl c)).setCell ⟨w.heap.size,1,none⟩ (.string s)).setCell ⟨w.heap.size,2,none⟩ (.slice x1 x2 x3)).cell? ⟨w1.heap.size,0,none⟩=some (.string s)∧(((W.setCell ⟨w.heap.size,0,none⟩ (.slice a pl c)).setCell ⟨w.heap.size,1,none⟩ (.string s)).setCell ⟨w.heap.size,2,none⟩ (.slice x1 x2 x3)).cell? ⟨w1.heap.size,1,none⟩=some (.slice x1 x2 x3))∧Below w.heap.size w (((W.setCell ⟨w.heap.size,0,none⟩ (.slice a pl c)).setCell ⟨w.heap.size,1,none⟩ (.string s)).setCell ⟨w.heap.size,2,none⟩ (.slice x1 x2 x3))∧(false=true->PRep (((W.setCell ⟨w.heap.size,0,none⟩ (.slice a pl c)).setCell ⟨w.heap.size,1,none⟩ (.string s)).setCell ⟨w.heap.size,2,none⟩ (.slice x1 x2 x3)) (fun b=>w.heap.size<b∧b<(((W.setCell ⟨w.heap.size,0,none⟩ (.slice a pl c)).setCell ⟨w.heap.size,1,none⟩ (.string s)).setCell ⟨w.heap.size,2,none⟩ (.slice x1 x2 x3)).heap.size) (allM ps) (.agg #[.string s,.slice x1 x2 x3]))):=aA0 fun W hW=>by
   have h:(((W.setCell ⟨w.heap.size,0,none⟩ (.slice a pl c)).setCell ⟨w.heap.size,1,none⟩ (.string s)).setCell ⟨w.heap.size,2,none⟩ (.slice x1 x2 x3)).heap[w1.heap.size]?=some (.cells #[.string s,.slice x1 x2 x3,.slice y1 y2 y3] 49 (0,0)):=by
    rw[Below.heap_setCell _ _ _ _ (by show w1.heap.size≠w.heap.size;omega),Below.heap_setCell _ _ _ _ (by show w1.heap.size≠w.heap.size;omega),Below.heap_setCell _ _ _ _ (by show w1.heap.size≠w.heap.size;omega)]
    exact(HBX.out W hW).2
   refine⟨⟨(aA1 h 0 (by simp)).1,(aA1 h 1 (by simp)).1⟩,(((((b0.trans (b12.mono (by omega))).trans (hW.mono (by have:=b12.size;omega))).setCell (p:=⟨w.heap.size,0,none⟩) (Nat.le_refl _) _).setCell (p:=⟨w.heap.size,1,none⟩) (Nat.le_refl _) _).setCell (p:=⟨w.heap.size,2,none⟩) (Nat.le_refl _) _),fun hb=>((HPP.out hb).mono fun b hb2=>?_).sub fun b hb2=>⟨by omega,by have:=hW.size;simp;omega⟩⟩
   rw[Below.heap_setCell _ _ _ _ (by show b≠w.heap.size;omega),Below.heap_setCell _ _ _ _ (by show b≠w.heap.size;omega),Below.heap_setCell _ _ _ _ (by show b≠w.heap.size;omega)]
   exact(hW.block b (by omega)).trans (b2.block b hb2.2)
  have bX:Below w2.heap.size w2 w2.drew:=(Below.refl _ _).drew;clear n2 b2 b12 b1 z1 z2 n0 b0 z0;refine wp_region_held_drew (S:=(fun W=>W.cell? ⟨w1.heap.size,0,none⟩=some (.string s)∧W.cell? ⟨w1.heap.size,1,none⟩=some (.slice x1 x2 x3))) (by kernel_rfl) (HS.out _ bX) (fun hHeld=>?_)
  generalize w2.drew=wD at*;refine tkH 0 hHeld ?_;refine tkH 1 hHeld ?_;refine tkH 2 hHeld ?_;refine tkH 3 hHeld ?_;refine tkH 4 hHeld ?_;refine tkH 5 hHeld ?_;refine rdyH [6] ?_;refine rcH (fun K hK=>?_) AllReadyH.nil;obtain⟨nE,nS⟩:=HBX.out wD bX;obtain⟨o0,y0⟩:=aA1 nE 0 (by simp)
  obtain⟨o1,y1⟩:=aA1 nE 1 (by simp)
  obtain⟨o2,y2⟩:=aA1 nE 2 (by simp)
  simp only[List.getElem_toArray,List.getElem_cons_zero,List.getElem_cons_succ] at o0 o1 o2;have HRR:=aA0 (aDM nE (.slice a pl c) (.string s) (.slice x1 x2 x3));have HFF:=aA0 (HFIN.out wD bX);clear nE nS;go_simp
  clear o0 o1 o2 y0 y1 y2;refine hK.out _ _ HFF.out.1 (fun hHeld=>?_);clear hK K;try simp only[Act.put,sIA,sI0,sIS]
  refine tkH 7 hHeld ?_;refine wpAnyH_done (by kernel_rfl) ?_ _
  go_wp2_with fail
  have e0:=(aA1 HRR.out 0 (by simp)).1
  have e1:=(aA1 HRR.out 1 (by simp)).1
  have e2:=(aA1 HRR.out 2 (by simp)).1
  first| exact bodyPost_ret (aIG _ _ w.heap.size _ _ _ _ rfl rfl e0 e1 e2) rfl ⟨s,x1,x2,x3,rfl,HFF.out.2⟩| exact bodyPost_ret (aIG _ _ w.heap.size _ _ _ _ rfl rfl e0 e1 e2) rfl ⟨s,x1,x2,x3,rfl,HFF.out.2.1,HFF.out.2.2 (by trivial)⟩
 ·go_upto_region 2 with(
   go_at_call 53
   refine HC.out.mono ?_;rintro e w1 ⟨ch,er,rfl,⟨s,x1,x2,x3,y1,y2,y3,rfl⟩,b1,hT,-⟩;obtain⟨rfl,hch⟩:=hT HBB.out.symm)
  have HPP:Hid (true=true->PRep w1 (fun b=>w0.heap.size<b∧b<w1.heap.size) (allM ps) (.agg #[.string s,.slice x1 x2 x3])):=aA0 fun _=>by
   obtain⟨ta,oa,tc,oc,e,hp,-,-⟩:=hch;simp only[Value.agg.injEq,Array.mk.injEq,List.cons.injEq,Value.string.injEq,Value.slice.injEq,and_true] at e;obtain⟨rfl,⟨rfl,rfl,rfl⟩,-⟩:=e;exact hp
  clear hch;have z1:=b1.size;have b2:=aA2 w1 (.cells #[.string s,.slice x1 x2 x3,.slice y1 y2 y3] 49);have n2:=aA3 (w:=w1) (N:=w1.heap.size) #[.string s,.slice x1 x2 x3,.slice y1 y2 y3] 49 rfl;have z2:w1.heap.size<(w1.alloc (.cells #[.string s,.slice x1 x2 x3,.slice y1 y2 y3] 49)).heap.size:=by simp
  have b12:=b1.trans (b2.mono z1);generalize w1.alloc (.cells #[.string s,.slice x1 x2 x3,.slice y1 y2 y3] 49)=w2 at*;have HBX:Hid (∀W,Below w2.heap.size w2 W->W.heap[w.heap.size]?=some (.cells #[.slice none 0 0,.string ⟨#[]⟩,.slice none 0 0] 61 (0,0))∧W.heap[w1.heap.size]?=some (.cells #[.string s,.slice x1 x2 x3,.slice y1 y2 y3] 49 (0,0))):=aA0 fun W hW=>⟨((b12.trans (hW.mono b12.size)).block w.heap.size z0).trans n0,(hW.block w1.heap.size z2).trans n2⟩;have HS:Hid (∀W,Below w2.heap.size w2 W->W.cell? ⟨w1.heap.size,0,none⟩=some (.string s)∧W.cell? ⟨w1.heap.size,1,none⟩=some (.slice x1 x2 x3)):=aA0 fun W hW=>by
   have h:=(HBX.out W hW).2;exact⟨(aA1 h 0 (by simp)).1,(aA1 h 1 (by simp)).1⟩
  have HFIN:Hid (∀W,Below w2.heap.size w2 W->((((W.setCell ⟨w.heap.size,0,none⟩ (.slice a pl c)).setCell ⟨w.heap.size,1,none⟩ (.string s)).setCell ⟨w.heap.size,2,none⟩ (.slice x1 x2 x3)).cell? ⟨w1.heap.size,0,none⟩=some (.string s)∧(((W.setCell ⟨w.heap.size,0,none⟩ (.slice a pl c)).setCell ⟨w.heap.size,1,none⟩ (.string s)).setCell ⟨w.heap.size,2,none⟩ (.slice x1 x2 x3)).cell? ⟨w1.heap.size,1,none⟩=some (.slice x1 x2 x3))∧Below w.heap.size w (((W.setCell ⟨w.heap.size,0,none⟩ (.slice a pl c)).setCell ⟨w.heap.size,1,none⟩ (.string s)).setCell ⟨w.heap.size,2,none⟩ (.slice x1 x2 x3))∧(true=true->PRep (((W.setCell ⟨w.heap.size,0,none⟩ (.slice a pl c)).setCell ⟨w.heap.size,1,none⟩ (.string s)).setCell ⟨w.heap.size,2,none⟩ (.slice x1 x2 x3)) (fun b=>w.heap.size<b∧b<(((W.setCell ⟨w.heap.size,0,none⟩ (.slice a pl c)).setCell ⟨w.heap.size,1,none⟩ (.string s)).setCell ⟨w.heap.size,2,none⟩ (.slice x1 x2 x3)).heap.size) (allM ps) (.agg #[.string s,.slice x1 x2 x3]))):=aA0 fun W hW=>by
   have h:(((W.setCell ⟨w.heap.size,0,none⟩ (.slice a pl c)).setCell ⟨w.heap.size,1,none⟩ (.string s)).setCell ⟨w.heap.size,2,none⟩ (.slice x1 x2 x3)).heap[w1.heap.size]?=some (.cells #[.string s,.slice x1 x2 x3,.slice y1 y2 y3] 49 (0,0)):=by
    rw[Below.heap_setCell _ _ _ _ (by show w1.heap.size≠w.heap.size;omega),Below.heap_setCell _ _ _ _ (by show w1.heap.size≠w.heap.size;omega),Below.heap_setCell _ _ _ _ (by show w1.heap.size≠w.heap.size;omega)]
    exact(HBX.out W hW).2
   refine⟨⟨(aA1 h 0 (by simp)).1,(aA1 h 1 (by simp)).1⟩,(((((b0.trans (b12.mono (by omega))).trans (hW.mono (by have:=b12.size;omega))).setCell (p:=⟨w.heap.size,0,none⟩) (Nat.le_refl _) _).setCell (p:=⟨w.heap.size,1,none⟩) (Nat.le_refl _) _).setCell (p:=⟨w.heap.size,2,none⟩) (Nat.le_refl _) _),fun hb=>((HPP.out hb).mono fun b hb2=>?_).sub fun b hb2=>⟨by omega,by have:=hW.size;simp;omega⟩⟩
   rw[Below.heap_setCell _ _ _ _ (by show b≠w.heap.size;omega),Below.heap_setCell _ _ _ _ (by show b≠w.heap.size;omega),Below.heap_setCell _ _ _ _ (by show b≠w.heap.size;omega)]
   exact(hW.block b (by omega)).trans (b2.block b hb2.2)
  have bX:Below w2.heap.size w2 w2.drew:=(Below.refl _ _).drew;clear n2 b2 b12 b1 z1 z2 n0 b0 z0;refine wp_region_held_drew (S:=(fun W=>W.cell? ⟨w1.heap.size,0,none⟩=some (.string s)∧W.cell? ⟨w1.heap.size,1,none⟩=some (.slice x1 x2 x3))) (by kernel_rfl) (HS.out _ bX) (fun hHeld=>?_)
  generalize w2.drew=wD at*;refine tkH 0 hHeld ?_;refine tkH 1 hHeld ?_;refine tkH 2 hHeld ?_;refine tkH 3 hHeld ?_;refine tkH 4 hHeld ?_;refine tkH 5 hHeld ?_;refine rdyH [6] ?_;refine rcH (fun K hK=>?_) AllReadyH.nil;obtain⟨nE,nS⟩:=HBX.out wD bX;obtain⟨o0,y0⟩:=aA1 nE 0 (by simp)
  obtain⟨o1,y1⟩:=aA1 nE 1 (by simp)
  obtain⟨o2,y2⟩:=aA1 nE 2 (by simp)
  simp only[List.getElem_toArray,List.getElem_cons_zero,List.getElem_cons_succ] at o0 o1 o2;have HRR:=aA0 (aDM nE (.slice a pl c) (.string s) (.slice x1 x2 x3));have HFF:=aA0 (HFIN.out wD bX);clear nE nS;go_simp
  clear o0 o1 o2 y0 y1 y2;refine hK.out _ _ HFF.out.1 (fun hHeld=>?_);clear hK K;try simp only[Act.put,sIA,sI0,sIS]
  refine tkH 7 hHeld ?_;refine wpAnyH_done (by kernel_rfl) ?_ _
  go_wp2_with fail
  have e0:=(aA1 HRR.out 0 (by simp)).1
  have e1:=(aA1 HRR.out 1 (by simp)).1
  have e2:=(aA1 HRR.out 2 (by simp)).1
  first| exact bodyPost_ret (aIG _ _ w.heap.size _ _ _ _ rfl rfl e0 e1 e2) rfl ⟨s,x1,x2,x3,rfl,HFF.out.2⟩| exact bodyPost_ret (aIG _ _ w.heap.size _ _ _ _ rfl rfl e0 e1 e2) rfl ⟨s,x1,x2,x3,rfl,HFF.out.2.1,HFF.out.2.2 (by trivial)⟩
end Go.Proofs.YtcebpkeiaiiphaaGreatDoor
namespace Go.Proofs.YtcebpkeiaiiphaaGreatDoor
open Go.RowKit Go.Maps Go.MapKept
theorem RcI.rebox{base N m:Nat}{c0 c1 c2 sv:Value}{st:List Sta}{wy:List (List ByteArray)}{w:World}(h:RcI base N m c0 c1 c2 st wy sv w):
  RcI base w.heap.size m c0 c1 c2 st wy sv (w.alloc (.cells #[c0,c1,c2,sv,.map (some m)] 66)):=by
 have bX:=aA2 w (.cells #[c0,c1,c2,sv,.map (some m)] 66);have zX:(w.alloc (.cells #[c0,c1,c2,sv,.map (some m)] 66)).heap.size=w.heap.size+1:=by simp
 obtain⟨G,hO,hG⟩:=h.map;refine⟨⟨aA3 _ _ rfl,aAE h.b.srow bX,fun e=>?_,h.b.mM,fun e=>by have:=h.b.lm;omega,by have:=h.b.bN;have:=h.b.lN;omega,h.b.bm,by have:=h.b.lm;omega⟩,h.len,G,hO.of_block (bX.block m h.b.lm),fun i hi=>?_,hG.none⟩
 ·have:=(h.b.srow.lt _ e).2;omega
 ·obtain⟨a,c,h1,h2⟩:=hG.way i hi;exact⟨a,c,h1,(h2.mono fun b hb=>bX.block b hb.2.1).sub fun b hb=>⟨hb.1,by have:=hb.2.1;omega,hb.2.2.1,by have:=hb.2.1;omega,hb.2.2.2.2⟩⟩
theorem aSZ{w:World}{N:Nat}{T:TypeId}{a0 a1 a2 a3 a4:Value}(hb:w.heap[N]?=some (.cells #[a0,a1,a2,a3,a4] T (0,0)))(v0 v1 v2 v3 v4:Value):
  (((((w.setCell ⟨N,0,none⟩ v0).setCell ⟨N,1,none⟩ v1).setCell ⟨N,2,none⟩ v2).setCell ⟨N,3,none⟩ v3).setCell ⟨N,4,none⟩ v4).heap[N]?=some (.cells #[v0,v1,v2,v3,v4] T (0,0)):=by
 simpa using aAC (aAC (aAC (aAC (aAC hb 0 v0) 1 v1) 2 v2) 3 v3) 4 v4
theorem aUV{base N m R:Nat}{c0 c1 c2:Value}{sa:Option Addr}{sc:Nat}{w W:World}(h:RcI base N m c0 c1 c2 [⟨0,qry⟩] [[]] (.slice sa 1 sc) w)(hput:∀b,b≠R->W.heap[b]?=w.heap[b]?)(hsz:W.heap.size=w.heap.size)(hN:R≠N)(hm:R≠m)(hR:True)(hs:(Value.slice sa 1 sc).ownBlock≠some R):RcI base N m c0 c1 c2 [⟨0,qry⟩] [[]] (.slice sa 1 sc) W:=by
 obtain⟨G,hO,hG⟩:=h.map;refine⟨⟨(hput N fun e=>hN e.symm).trans h.b.box,aB2 h.b.srow fun g e=>hput g fun e2=>hs (by rw[e,e2]),h.b.mS,h.b.mM,h.b.nM,h.b.bN,h.b.bm,by rw[hsz];exact h.b.lm⟩,h.len,G,hO.of_block (hput m fun e=>hm e.symm),fun i hi=>?_,hG.none⟩
 obtain⟨a,c,h1,h2⟩:=hG.way i hi;have e:i=0:=by simp at hi;exact hi
 subst e;exact⟨a,c,h1,aDS _ _ _⟩
def aVK(a:Option Addr)(pl c:Nat)(s:ByteArray)(ta:Option Addr)(tn tc:Nat)(w:World)(e:Ending)(w':World):Prop:=∃n sa sc m N,e=.returned (.agg #[.slice a pl c,.string s,.slice ta tn tc,.slice sa n sc,.map (some m)])∧Below w.heap.size w w'∧RcI w.heap.size N m (.slice a pl c) (.string s) (.slice ta tn tc) [⟨0,qry⟩] [[]] (.slice sa n sc) w'
set_option maxRecDepth 20000 in
set_option maxHeartbeats 1600000 in
theorem aMQ(a:Option Addr)(pl c:Nat)(s:ByteArray)(ta:Option Addr)(tn tc:Nat)(w:World):
  Calls Tryz.prog 30 #[.agg #[.slice a pl c,.string s,.slice ta tn tc]] w (aVK a pl c s ta tn tc w):=by
 have hmm:=@run_makeMap Tryz.prog;go_enter Tryz.func30,Tryz.ntmps30
 have bP:=aA6 w (.cells #[.slice a pl c,.string s,.slice ta tn tc] 61) (.cells #[.slice none 0 0,.string ⟨#[]⟩,.slice none 0 0,.slice none 0 0,.map none] 66);have zP:((w.alloc (.cells #[.slice a pl c,.string s,.slice ta tn tc] 61)).alloc (.cells #[.slice none 0 0,.string ⟨#[]⟩,.slice none 0 0,.slice none 0 0,.map none] 66)).heap.size=w.heap.size+1+1:=by simp
 have nC:((w.alloc (.cells #[.slice a pl c,.string s,.slice ta tn tc] 61)).alloc (.cells #[.slice none 0 0,.string ⟨#[]⟩,.slice none 0 0,.slice none 0 0,.map none] 66)).heap[w.heap.size]?=some (.cells #[.slice a pl c,.string s,.slice ta tn tc] 61 (0,0)):=by
  rw[(aA2 _ _).block _ (by simp)]
  exact aA3 _ _ rfl
 have nR:((w.alloc (.cells #[.slice a pl c,.string s,.slice ta tn tc] 61)).alloc (.cells #[.slice none 0 0,.string ⟨#[]⟩,.slice none 0 0,.slice none 0 0,.map none] 66)).heap[w.heap.size+1]?=some (.cells #[.slice none 0 0,.string ⟨#[]⟩,.slice none 0 0,.slice none 0 0,.map none] 66 (0,0)):=aA3 _ _ (by simp)
 go_upto_region 1 with fail
 generalize (w.alloc (.cells #[.slice a pl c,.string s,.slice ta tn tc] 61)).alloc (.cells #[.slice none 0 0,.string ⟨#[]⟩,.slice none 0 0,.slice none 0 0,.map none] 66)=X at*;obtain⟨q0,-⟩:=aA1 nC 0 (by simp)
 obtain⟨q1,-⟩:=aA1 nC 1 (by simp)
 obtain⟨q2,-⟩:=aA1 nC 2 (by simp)
 simp only[List.getElem_toArray,List.getElem_cons_zero,List.getElem_cons_succ] at q0 q1 q2;have HZP:=aA0 zP;have HBP:=aA0 bP;have HNR:=aA0 nR;clear zP bP nC nR;go_upto_region 2 with fail
 clear q0 q1 q2;have nM:((X.alloc (.map #[] 0)).alloc (.cells #[.slice a pl c,.string s,.slice ta tn tc,.slice none 0 0,.map (some X.heap.size)] 66)).heap[X.heap.size]?=some (.map #[] 0):=by
  rw[(aA2 _ _).block _ (by simp)]
  exact heap_alloc_new _ _
 have nB:((X.alloc (.map #[] 0)).alloc (.cells #[.slice a pl c,.string s,.slice ta tn tc,.slice none 0 0,.map (some X.heap.size)] 66)).heap[X.heap.size+1]?=some (.cells #[.slice a pl c,.string s,.slice ta tn tc,.slice none 0 0,.map (some X.heap.size)] 66 (0,0)):=aA3 _ _ (by simp)
 have bY:=aA6 X (.map #[] 0) (.cells #[.slice a pl c,.string s,.slice ta tn tc,.slice none 0 0,.map (some X.heap.size)] 66);have zY:((X.alloc (.map #[] 0)).alloc (.cells #[.slice a pl c,.string s,.slice ta tn tc,.slice none 0 0,.map (some X.heap.size)] 66)).heap.size=X.heap.size+1+1:=by simp
 generalize (X.alloc (.map #[] 0)).alloc (.cells #[.slice a pl c,.string s,.slice ta tn tc,.slice none 0 0,.map (some X.heap.size)] 66)=Y at*;have HR0:Hid (RcI w.heap.size (X.heap.size+1) X.heap.size (.slice a pl c) (.string s) (.slice ta tn tc) [] [] (.slice none 0 0) Y):=aA0
  ⟨⟨nB,World.ownsRow_nil _ _ _ _,fun e=>(by cases e),fun e=>(by cases e),by omega,by have:=HZP.out;omega,by have:=HZP.out;omega,by omega⟩,rfl,fun _=>none,⟨#[],0,nM,by simp,by simp,by simp⟩,fun i hi=>by simp at hi,fun _ _=>rfl⟩
 have HCO:=aA0 (aOR w.heap.size (X.heap.size+1) X.heap.size (.slice a pl c) (.string s) (.slice ta tn tc) [] [] (.slice none 0 0) ⟨0,qry⟩ [] none 0 Y HR0.out (aDS _ _ _) (by simp))
 have HBY:=aA0 bY;have HZY:=aA0 zY;clear nM nB bY zY;go_upto_region 3 with(go_at_call 54;refine HCO.out.mono ?_;rintro e w2 ⟨rfl,sv,hr0,hc0,hn0⟩;have HRR:=aA0 hr0;have HCC:=aA0 hc0;have HNN:=aA0 hn0;clear hr0 hc0 hn0)
 have hr:=HRR.out;have hc:=HCC.out;have hn:=HNN.out;clear HRR HCC HNN;obtain⟨sa,sc,hsv⟩:=aJS hr.b.srow;have hst:stC [] ⟨0,qry⟩=[⟨0,qry⟩]:=rfl;have hwy:wyC [] [] ⟨0,qry⟩ []=[[]]:=rfl;rw[hst,hwy] at hr;rw[hst] at hsv;rw[hsv] at hr;simp only[List.length_singleton] at hr;have HR:=aA0 hr;have HC:Hid (w2.heap[w.heap.size+1]?=some (.cells #[.slice none 0 0,.string ⟨#[]⟩,.slice none 0 0,.slice none 0 0,.map none] 66 (0,0))∧Below w.heap.size w w2):=aA0 (by
  have h1:=HZP.out;have h2:=HBY.out.size;have h3:=HZY.out;have hb:=HBP.out.trans (HBY.out.mono HBP.out.size);refine⟨(hc.block (w.heap.size+1) (by omega) (by omega) (by omega) fun e=>by cases e).trans ((HBY.out.block (w.heap.size+1) (by omega)).trans HNR.out),hc.os.trans hb.os,hc.tape.trans hb.tape,hc.output.trans hb.output,by have:=hc.size;omega,fun b hb'=>(hc.block b (by omega) (by omega) (by omega) fun e=>by cases e).trans (hb.block b hb')⟩)
 obtain⟨⟨r0,r1,r2⟩,r3,r4⟩:=hr.b.cells;have HSO:Hid ((Value.slice sa 1 sc).ownBlock≠some (w.heap.size+1)):=aA0 fun e=>by
  rcases hn (w.heap.size+1) (by rw[hsv];exact e) with h| h
  ·cases h
  ·have h1:=HZP.out;have h2:=HZY.out;omega
 have HNE:Hid (w.heap.size+1≠X.heap.size+1∧w.heap.size+1≠X.heap.size):=aA0 (by have:=HZP.out;omega)
 clear hr hc hn hsv hst hwy HCO HR0;obtain⟨y0,g0⟩:=aA1 HC.out.1 0 (by simp)
 obtain⟨y1,g1⟩:=aA1 HC.out.1 1 (by simp)
 obtain⟨y2,g2⟩:=aA1 HC.out.1 2 (by simp)
 obtain⟨y3,g3⟩:=aA1 HC.out.1 3 (by simp)
 obtain⟨y4,g4⟩:=aA1 HC.out.1 4 (by simp)
 simp only[List.getElem_toArray,List.getElem_cons_zero,List.getElem_cons_succ] at y0 y1 y2 y3 y4;have HR5:=aA0 (aSZ HC.out.1 (.slice a pl c) (.string s) (.slice ta tn tc) (.slice sa 1 sc) (.map (some X.heap.size)));have HFIN:Hid (aVK a pl c s ta tn tc w (.returned (.agg #[.slice a pl c,.string s,.slice ta tn tc,.slice sa 1 sc,.map (some X.heap.size)])) (((((w2.setCell ⟨w.heap.size+1,0,none⟩ (.slice a pl c)).setCell ⟨w.heap.size+1,1,none⟩ (.string s)).setCell ⟨w.heap.size+1,2,none⟩ (.slice ta tn tc)).setCell ⟨w.heap.size+1,3,none⟩ (.slice sa 1 sc)).setCell ⟨w.heap.size+1,4,none⟩ (.map (some X.heap.size)))):=aA0 (by
  have hput:∀b,b≠w.heap.size+1->(((((w2.setCell ⟨w.heap.size+1,0,none⟩ (.slice a pl c)).setCell ⟨w.heap.size+1,1,none⟩ (.string s)).setCell ⟨w.heap.size+1,2,none⟩ (.slice ta tn tc)).setCell ⟨w.heap.size+1,3,none⟩ (.slice sa 1 sc)).setCell ⟨w.heap.size+1,4,none⟩ (.map (some X.heap.size))).heap[b]?=w2.heap[b]?:=fun b hb=>aC6 _ b hb [.slice a pl c,.string s,.slice ta tn tc,.slice sa 1 sc,.map (some X.heap.size)] w2 0;have hsz:(((((w2.setCell ⟨w.heap.size+1,0,none⟩ (.slice a pl c)).setCell ⟨w.heap.size+1,1,none⟩ (.string s)).setCell ⟨w.heap.size+1,2,none⟩ (.slice ta tn tc)).setCell ⟨w.heap.size+1,3,none⟩ (.slice sa 1 sc)).setCell ⟨w.heap.size+1,4,none⟩ (.map (some X.heap.size))).heap.size=w2.heap.size:=aCC _ [.slice a pl c,.string s,.slice ta tn tc,.slice sa 1 sc,.map (some X.heap.size)] w2 0;have hbl:Below w.heap.size w (((((w2.setCell ⟨w.heap.size+1,0,none⟩ (.slice a pl c)).setCell ⟨w.heap.size+1,1,none⟩ (.string s)).setCell ⟨w.heap.size+1,2,none⟩ (.slice ta tn tc)).setCell ⟨w.heap.size+1,3,none⟩ (.slice sa 1 sc)).setCell ⟨w.heap.size+1,4,none⟩ (.map (some X.heap.size))):=aC5 (by omega) [.slice a pl c,.string s,.slice ta tn tc,.slice sa 1 sc,.map (some X.heap.size)] w2 0 HC.out.2
  refine⟨1,sa,sc,X.heap.size,X.heap.size+1,rfl,hbl,?_⟩;exact aUV HR.out hput hsz HNE.out.1 HNE.out.2 trivial HSO.out)
 go_wp2_with fail
 have h5:=HR5.out;have hres:=fun tmps h2=>aTF _ tmps (w.heap.size+1) _ _ _ _ _ h2 h5;refine bodyPost_ret (hres _ rfl) rfl ?_;exact HFIN.out
theorem aR9{w:World}{base:Nat}{e:TypeId}{k:Nat}{a:Option Addr}{n c q:Nat}{xs:List Value}(h:w.ownsRow base e k (.slice a n c) q xs)(hn:n≠0):∃g,a=some ⟨g,0,none⟩∧base<=g∧g<w.heap.size:=by
 rcases h.2 with⟨e,-⟩| ⟨g,cap,cur,e,hb,hh,-⟩
 ·simp only[Value.slice.injEq] at e;omega
 ·simp only[Value.slice.injEq] at e;obtain⟨rfl,-,-⟩:=e;exact⟨g,rfl,hb,(Array.getElem?_eq_some_iff.1 hh).1⟩
theorem aPK(W:World)(wa:Option Addr)(n k:Nat)(ans:Bool)(lb:Nat)(T:TypeId)(v:Value)(hv:v=.slice none 0 0)(hl:W.heap[lb]?=some (.cells #[v] T (0,0))):Calls Tryz.prog 37 (#[.slice wa n k,.bool ans]++#[.pointer (some ⟨lb,0,none⟩)]) W (aQV true lb wa n k ans W):=by
 have e:(#[.slice wa n k,.bool ans]++#[.pointer (some ⟨lb,0,none⟩)]:Array Value)=#[.slice wa n k,.bool ans,.pointer (some ⟨lb,0,none⟩)]:=by simp
 rw[e];subst hv;obtain⟨c0,z0⟩:=aA1 hl 0 (by simp)
 simp only[List.getElem_toArray,List.getElem_cons_zero] at c0;clear hl e;cases ans
 ·go_enter Tryz.func37,Tryz.ntmps37
  go_wp2_with fail
  go_ret
  exact⟨fun _=>⟨rfl,rfl⟩,fun h=>by rcases h with h| h<;>cases h⟩
 ·go_enter Tryz.func37,Tryz.ntmps37
  go_wp2_with fail
  go_ret
  exact⟨fun h=>(by cases h.2),fun _=>⟨rfl,rfl⟩⟩
theorem aV6(args:Array Value)(W:World):Sem.run Tryz.prog (callFunc 37 args) W=Result.ok (Next.enter 37 args) W:=by kernel_rfl
theorem aJO(FW:World)(tmps:Array Value)(x y:Value)(h2:tmps.getD 2 undef=x)(h3:tmps.getD 3 undef=y):
  (results Tryz.f17 tmps).run Tryz.prog FW=.ok (.tuple #[x,y]) FW:=by
 simp only[Array.getD_eq_getD_getElem?] at h2 h3;simp[results,Tryz.results17,go_sem,h2,h3]
def aU8(ps:List Pt)(w:World)(e:Ending)(w':World):Prop:=∃ra rc,e=.returned (.tuple #[.bool (aFC ps),.slice ra (aEE ps).length rc])∧Below w.heap.size w w'∧Strs w' (fun b=>w.heap.size<=b∧b<w'.heap.size) (aEE ps) ra∧aNO w' w.heap.size w'.heap.size (aEE ps).length ra
set_option maxRecDepth 20000 in
set_option maxHeartbeats 1600000 in
theorem aML(ps:List Pt)(w:World)(B:Nat)(a:Option Addr)(c:Nat)(hc:ps.length<=c)(hR:aAP w (·<B) ps a)(hB:B<=w.heap.size)(hz:∀i,i<ps.length->szP (pth ps i)<=1048576)(hG:GErr w):
  Calls Tryz.prog 17 #[.slice a ps.length c] w (aU8 ps w):=by
 have HCR:=aA0 (aH8 ps w B a c hc hR hB hz hG);have HPP:Hid (∀W,Below w.heap.size w W->aAP W (·<B) ps a):=aA0 fun W hW=>hR.under (hW.mono hB);have HBB:=aA0 hB;have HND:=aA0 (aMU ps hz);have HWK:Hid (∀W B' base N m stop lb fid caps ta tc sv,aBA ps okP=true->Below w.heap.size w W->PRep W (·<B') (allM ps) (.agg #[.string (allM ps).name,.slice ta (allM ps).types.length tc])->B<=B'->B'<=base->RcI base N m (.slice a ps.length c) (.string (allM ps).name) (.slice ta (allM ps).types.length tc) [⟨0,qry⟩] [[]] sv W->(∀(args:Array Value) (W:World),Sem.run Tryz.prog (callFunc fid args) W=Result.ok (Next.enter fid args) W)->(∀(W':World) (wa:Option Addr) (n k:Nat) (ans:Bool),Below base W W'->Calls Tryz.prog fid (#[.slice wa n k,.bool ans]++caps) W' (aQV stop lb wa n k ans W'))->
   Calls Tryz.prog 31 #[.pointer (some ⟨N,0,none⟩),.func (.func fid) #[] caps] W (aLF stop lb base N m (.slice a ps.length c) (.string (allM ps).name) (.slice ta (allM ps).types.length tc) ps (allM ps) W)):=aA0 fun W B' base N m stop lb fid caps ta tc sv hch hW hA hBB hbase hr hcf hT=>
  aSS ps (allM ps) W B' base N m a c ta tc sv stop lb fid caps (aE1 hch).1 (aE1 hch).2.1 (aE1 hch).2.2 HND.out ((HPP.out W hW).sub fun b (hb:b<B)=>show b<B' by omega) hA hbase hr hcf hT
 have HRW:Hid (aEE ps=if aBA ps okP=true then(wkE ps (allM ps)).bad else[]):=aA0 rfl
 have HRB:Hid (aFC ps=(aBA ps okP&&(wkE ps (allM ps)).bad.isEmpty)):=aA0 rfl;have HFW:=aA0 (aKD ps);clear hR hB hz hG hc;generalize hch:aBA ps okP=ch at*;replace hch:=aA0 hch
 generalize ps.length=pl at*;go_enter Tryz.func17,Tryz.ntmps17
 go_upto_region 2 with(
  go_at_call 29
  refine HCR.out.mono ?_;rintro e w1 ⟨s,ta,tn,tc,rfl,b1,hP⟩)
 have nC:=aA3 (w:=w1) (N:=w1.heap.size) #[.slice a pl c,.string s,.slice ta tn tc] 61 rfl;have bC:=aA2 w1 (.cells #[.slice a pl c,.string s,.slice ta tn tc] 61);have bX:=b1.trans (bC.mono b1.size);cases ch
 ·have HE:Hid (aEE ps=[]∧aFC ps=false):=aA0 ⟨by rw[HRW.out,if_neg (by simp)],by rw[HRB.out];rfl⟩
  clear nC bC;go_wp2_with fail
  refine bodyPost_ret (aJO _ _ _ _ rfl rfl) rfl ?_;refine⟨none,0,by rw[HE.out.1,HE.out.2]<;>rfl,bX,?_⟩
  rw[HE.out.1];exact⟨aDS _ _ _,fun h=>by simp at h⟩
 ·have HE:Hid (aEE ps=(wkE ps (allM ps)).bad):=aA0 (by rw[HRW.out,if_pos rfl])
  have HE2:Hid (aFC ps=decide ((wkE ps (allM ps)).bad=[])):=aA0 (by rw[HRB.out];cases (wkE ps (allM ps)).bad<;>simp)
  have hPX:PRep _ (·<w1.heap.size) (allM ps) (.agg #[.string s,.slice ta tn tc]):=((hP rfl).mono fun b hb=>bC.block b hb.2).sub fun b hb=>hb.2;generalize w1.alloc (.cells #[.slice a pl c,.string s,.slice ta tn tc] 61)=X at*;have hPX':=hPX;obtain⟨ta',tc',e,-⟩:=hPX';simp only[Value.agg.injEq,Array.mk.injEq,List.cons.injEq,Value.string.injEq,Value.slice.injEq,and_true] at e;obtain⟨rfl,rfl,rfl,rfl⟩:=e;have HPX:=aA0 hPX;have HSZ:Hid (w.heap.size<=w1.heap.size∧w1.heap.size<=X.heap.size):=aA0 ⟨b1.size,bC.size⟩;clear hP hPX bC b1;generalize hnm:(allM ps).name=anm at*;generalize htl:(allM ps).types.length=atl at*;have nL:=aA3 (w:=X) (N:=X.heap.size) #[.slice none 0 0] 33 rfl;have bL:=aA2 X (.cells #[.slice none 0 0] 33);have nC2:=(bL.block w1.heap.size (by have:=(Array.getElem?_eq_some_iff.1 nC).1;exact this)).trans nC
  have zL:X.heap.size<(X.alloc (.cells #[.slice none 0 0] 33)).heap.size:=by simp
  go_upto_region 5 with fail
  generalize X.alloc (.cells #[.slice none 0 0] 33)=Q at*;have HNW:=aA0 (aMQ a pl c anm ta atl tc Q);obtain⟨c0,-⟩:=aA1 nC2 0 (by simp)
  obtain⟨c1,-⟩:=aA1 nC2 1 (by simp)
  obtain⟨c2,-⟩:=aA1 nC2 2 (by simp)
  simp only[List.getElem_toArray,List.getElem_cons_zero,List.getElem_cons_succ] at c0 c1 c2;have bQ:=bX.trans (bL.mono bX.size);have HQ:Hid (w1.heap.size<=Q.heap.size∧X.heap.size<Q.heap.size):=aA0 (by have:=HSZ.out;omega)
  have HPQ:=aA0 (HPX.out.under (bL.mono HSZ.out.2));have HNL:=aA0 nL;clear nC nC2 bL zL nL HPX;go_upto_region 6 with(
   go_at_call 30
   refine HNW.out.mono ?_;rintro e w2 ⟨n,sa,sc,m,N,rfl,b2,hr⟩;have HRR:=aA0 hr;clear hr)
  have hrb:=HRR.out.rebox;have bR:=aA2 w2 (.cells #[.slice a pl c,.string anm,.slice ta atl tc,.slice sa n sc,.map (some m)] 66);have bY:=b2.trans (bR.mono b2.size);generalize w2.alloc (.cells #[.slice a pl c,.string anm,.slice ta atl tc,.slice sa n sc,.map (some m)] 66)=Y at*;have HWA:=aA0 (HWK.out Y w1.heap.size Q.heap.size w2.heap.size m true X.heap.size 37 #[.pointer (some ⟨X.heap.size,0,none⟩)] ta tc (.slice sa n sc) (by first| rfl| trivial) (bQ.trans (bY.mono bQ.size)) (HPQ.out.under (bY.mono HQ.out.1)) (by have:=HBB.out;have:=HSZ.out;omega) HQ.out.1 hrb aV6 (fun W' wa n k ans hW'=>aPK W' wa n k ans X.heap.size 33 _ rfl ((hW'.block X.heap.size HQ.out.2).trans ((bY.block X.heap.size HQ.out.2).trans HNL.out))))
  have HBY:=aA0 bY;have HBQ:=aA0 bQ;clear c0 c1 c2 HWK HRR hrb bR bY bX bQ;rw[HE.out] at HFW;go_upto_region 7 with(
   go_at_call 31
   refine HWA.out.mono ?_;rintro e w3 ⟨rfl,hgo,hno⟩;have HGO:=aA0 hgo;have HNO:=aA0 hno;clear hgo hno)
  clear HWA;generalize (wkE ps (allM ps)).bad=bad at*;have hQw:=HBQ.out.size;by_cases hbd:bad=[]
  ·obtain⟨b3,-⟩:=HGO.out (.inr hbd);have nL3:=(b3.block X.heap.size HQ.out.2).trans ((HBY.out.block X.heap.size HQ.out.2).trans HNL.out);have HL3:Hid (w3.drew.cell? ⟨X.heap.size,0,none⟩=some (.slice none 0 0)):=aA0 (aA1 nL3 0 (by simp)).1
   have HFIN:Hid (aU8 ps w (.returned (.tuple #[.bool true,.slice none 0 0])) w3.drew):=aA0 ⟨none,0,by rw[HE.out,HE2.out,hbd];rfl,(HBQ.out.trans ((HBY.out.trans b3).mono hQw)).drew,by rw[HE.out,hbd];exact aDS _ _ _,by rw[HE.out,hbd];exact fun h=>by simp at h⟩
   clear b3 nL3 hbd HGO HNO;refine wp_region_held_drew (S:=(fun W=>W.cell? ⟨X.heap.size,0,none⟩=some (.slice none 0 0))) (by kernel_rfl) HL3.out (fun hHeld=>?_)
   refine tkH 0 hHeld ?_;refine tkH 1 hHeld ?_;refine tkH 2 hHeld ?_;refine tkH 3 hHeld ?_;refine tkH 4 hHeld ?_;refine tkH 5 hHeld ?_;refine wpAnyH_done (by kernel_rfl) ?_ _
   go_wp2_with fail
   have hres:=fun tmps h2 h3=>aJO w3.drew tmps (.bool true) (.slice none 0 0) h2 h3;refine bodyPost_ret (hres _ rfl rfl) rfl ?_;exact HFIN.out
  ·obtain⟨W,ga,gc,b3,rfl,hown⟩:=HNO.out ⟨by trivial,hbd⟩
   have nL3:=(b3.block X.heap.size HQ.out.2).trans ((HBY.out.block X.heap.size HQ.out.2).trans HNL.out);have hL3:=aAC nL3 0 (.slice ga bad.length gc);have HL3:Hid ((W.setCell ⟨X.heap.size,0,none⟩ (.slice ga bad.length gc)).drew.cell? ⟨X.heap.size,0,none⟩=some (.slice ga bad.length gc)):=aA0 (by have:=(aA1 hL3 0 (by simp)).1;simpa using this)
   have hbl:bad.length≠0:=fun e=>hbd (List.length_eq_zero_iff.1 e);have HFIN:Hid (aU8 ps w (.returned (.tuple #[.bool false,.slice ga bad.length gc])) (W.setCell ⟨X.heap.size,0,none⟩ (.slice ga bad.length gc)).drew):=aA0 (by
    obtain⟨g,rfl,hg1,hg2⟩:=aR9 hown hbl;have hbX:=HBQ.out.trans ((HBY.out.trans b3).mono hQw);have hne:g≠X.heap.size:=by have:=HQ.out.2;omega
    have ho2:(W.setCell ⟨X.heap.size,0,none⟩ (.slice (some ⟨g,0,none⟩) bad.length gc)).ownsRow Q.heap.size 9 1 (.slice (some ⟨g,0,none⟩) bad.length gc) bad.length (bad.map Value.string):=aB2 hown fun g' e=>Below.heap_setCell _ _ _ _ (by simp only[Value.ownBlock,Option.some.injEq] at e;subst e;exact hne)
    obtain⟨h1,h2,h3⟩:=aGD ho2 HFW.out.2 (by have:=HFW.out.1;unfold maxLen;omega) (by rw[aC1];exact hg2)
    have hsq:=HSZ.out;refine⟨some ⟨g,0,none⟩,gc,by rw[HE.out,HE2.out,decide_eq_false hbd],(hbX.setCell (p:=⟨X.heap.size,0,none⟩) (by show w.heap.size<=X.heap.size;omega) _).drew,?_,?_⟩
    ·rw[HE.out];exact h1.sub fun b hb=>⟨by have:=hb.1;omega,hb.2⟩
    ·rw[HE.out];exact fun hn=>by
      obtain⟨b,off,e,q1,q2,q3⟩:=h3 hn;exact⟨b,off,e,by omega,q2,q3⟩)
   generalize hWW:W.setCell ⟨X.heap.size,0,none⟩ (.slice ga bad.length gc)=WW at*;have hbi:¬(bad.length:Int)=0:=by omega
   have hbq:(((bad.length:Nat):Int)==0)=false:=beq_eq_false_iff_ne.2 hbi;clear b3 nL3 hL3 hown hbd HGO HNO hWW;refine wp_region_held_drew (S:=(fun W=>W.cell? ⟨X.heap.size,0,none⟩=some (.slice ga bad.length gc))) (by kernel_rfl) HL3.out (fun hHeld=>?_)
   refine tkH 0 hHeld ?_;refine tkH 1 hHeld ?_;refine tkH 2 hHeld ?_;refine tkH 3 hHeld ?_;refine tkH 4 hHeld ?_;refine tkH 5 hHeld ?_;refine wpAnyH_done (by kernel_rfl) ?_ _
   go_wp2_with fail
   have hres:=fun tmps h2 h3=>aJO WW.drew tmps (.bool false) (.slice ga bad.length gc) h2 h3;refine bodyPost_ret (hres _ (by first| rfl| simp[hbq]| simp[hbi]) rfl) rfl ?_
   exact HFIN.out
end Go.Proofs.YtcebpkeiaiiphaaGreatDoor
namespace Go.Proofs.YtcebpkeiaiiphaaGreatDoor
open Go.RowKit
theorem GErr.onR{w W:World}(h:GErr w)(hb:Below w.heap.size w W):GErr W:=h.on hb
theorem aMT{ps:List Pt}(h:szPs ps<=1048576):∀i,i<ps.length->szP (pth ps i)<=1048576:=fun i hi=>by
 have h1:=aM2 ps i ps.length hi;have h2:szPs ps=ps.length+aG3 ps ps.length:=rfl;omega
end Go.Proofs.YtcebpkeiaiiphaaGreatDoor
