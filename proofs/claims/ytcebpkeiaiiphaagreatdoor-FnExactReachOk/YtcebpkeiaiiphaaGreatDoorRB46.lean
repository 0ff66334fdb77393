import Derived.Test.YtcebpkeiaiiphaaGreatDoorRB45
import Derived.Test.YtcebpkeiaiiphaaGreatDoorRB43
set_option linter.unusedSimpArgs false
set_option linter.unusedVariables false
namespace Go.Proofs.YtcebpkeiaiiphaaGreatDoor
open Go.RowKit Go.Maps
theorem aH1(FW:World)(tmps:Array Value)(N:Nat)(v0 v1 v2 v3 er:Value)(h2:tmps.getD 2 undef=.pointer (some ⟨N,0,none⟩))(h3:tmps.getD 3 undef=er)(d0:FW.cell? ⟨N,0,none⟩=some v0)(d1:FW.cell? ⟨N,1,none⟩=some v1)(d2:FW.cell? ⟨N,2,none⟩=some v2):
  (results Tryz.f53 tmps).run Tryz.prog FW=.ok (.tuple #[.agg #[v0,v1,v2],er]) FW:=by
 simp only[Array.getD_eq_getD_getElem?] at h2 h3
 simp[results,Tryz.results53,go_sem,h2,h3,d0,d1,d2]
def aJE(ps:List Pt)(w:World)(e:Ending)(w':World):Prop:=∃ch er,e=.returned (.tuple #[ch,er])∧(∃s x1 x2 x3 y1 y2 y3,ch=.agg #[.string s,.slice x1 x2 x3,.slice y1 y2 y3])∧Below w.heap.size w w'∧(aBK ps okP=true→er=.nilIface∧CRep w' (fun b=>w.heap.size<b∧b<w'.heap.size) ⟨allM ps,ownT ps (allM ps) (allM ps).types.length⟩ ch)∧(aBK ps okP=false→∃T v,er=.iface T v)
theorem aJE.bad{ps:List Pt}{w w':World}{s:ByteArray}{x1 y1:Option Addr}{x2 x3 y2 y3:Nat}{T:TypeId}{v:Value}(h:aBK ps okP=false)(hb:Below w.heap.size w w'):aJE ps w (.returned (.tuple #[.agg #[.string s,.slice x1 x2 x3,.slice y1 y2 y3],.iface T v])) w':=⟨_,_,rfl,⟨_,_,_,_,_,_,_,rfl⟩,hb,(fun e=>by rw[h] at e;cases e),fun _=>⟨T,v,rfl⟩⟩
theorem aDG{w:World}{N:Nat}{T:TypeId}{a0 a1 a2:Value}(hb:w.heap[N]?=some (.cells #[a0,a1,a2] T (0,0)))(v0 v1 v2:Value):
  (((w.setCell ⟨N,0,none⟩ v0).setCell ⟨N,1,none⟩ v1).setCell ⟨N,2,none⟩ v2).heap[N]?=some (.cells #[v0,v1,v2] T (0,0)):=by
 simpa using aAB (aAB (aAB hb 0 v0) 1 v1) 2 v2
theorem aHJ(ps:List Pt):aBK ps okP=(aDE ps&&aA6 (fun i=>aA6 (fun k=>aC7 ps (tth (pth ps i).types k)) (pth ps i).types.length) ps.length&&okP (allM ps)):=rfl
theorem aOZ{ps:List Pt}(h:aDE ps=true):ps.length≤4∧∀i,i<ps.length→okP (pth ps i)=true:=by
 unfold aDE at h
 simp only[Bool.and_eq_true,decide_eq_true_eq] at h
 refine⟨h.1.2,fun i hi=>?_⟩
 have:=(aBH _ _).1 h.2 i hi
 unfold aF1 at this
 simp only[Bool.and_eq_true] at this
 exact this.1
set_option maxRecDepth 20000 in
set_option maxHeartbeats 3200000 in
theorem aMU(ps:List Pt)(w:World)(B:Nat)(a:Option Addr)(c:Nat)(hc:ps.length≤c)(hR:aAZ w (·<B) ps a)(hB:B≤w.heap.size)(hz:∀i,i<ps.length→szP (pth ps i)≤1048576)(hG:GErr w)(hE:aDE ps=false):
  Calls Tryz.prog 53 #[.slice a ps.length c] w (aJE ps w):=by
 have b0:=aA2 w (.cells #[.string ⟨#[]⟩,.slice none 0 0,.slice none 0 0] 49)
 have n0:=aA3 (w:=w) (N:=w.heap.size) #[.string ⟨#[]⟩,.slice none 0 0,.slice none 0 0] 49 rfl
 have z0:w.heap.size<(w.alloc (.cells #[.string ⟨#[]⟩,.slice none 0 0,.slice none 0 0] 49)).heap.size:=by simp
 have HC:=aA0 (aEU ps _ B a c hc (hR.under (b0.mono hB)) (by omega) hz (hG.on b0))
 have HBAD:=aA0 (show aBK ps okP=false by rw[aHJ,hE];rfl)
 rw[hE] at HC
 obtain⟨pl,HPL⟩:∃x,Hid (x=ps.length):=⟨_,aA0 rfl⟩
 rw[←HPL.out] at HC ⊢
 clear hc hR hB hz hG hE
 go_enter Tryz.func53,Tryz.ntmps53
 go_upto_region 1 with fail
 generalize w.alloc (.cells #[.string ⟨#[]⟩,.slice none 0 0,.slice none 0 0] 49)=w0 at*
 go_upto_region 2 with(
  go_at_call 79
  refine HC.out.mono ?_
  rintro e w1 ⟨⟨ev,rfl,-,hF⟩,b1⟩
  obtain⟨T,v,rfl⟩:=hF rfl)
 have n1:=(b1.block w.heap.size z0).trans n0
 obtain⟨o0,y0⟩:=aA1 n1 0 (by simp)
 obtain⟨o1,y1⟩:=aA1 n1 1 (by simp)
 obtain⟨o2,y2⟩:=aA1 n1 2 (by simp)
 simp only[List.getElem_toArray,List.getElem_cons_zero,List.getElem_cons_succ] at o0 o1 o2
 have HRR:=aA0 (aDG n1 (.string ⟨#[]⟩) (.slice none 0 0) (.slice none 0 0))
 have HBE:Hid (Below w.heap.size w (((w1.setCell ⟨w.heap.size,0,none⟩ (.string ⟨#[]⟩)).setCell ⟨w.heap.size,1,none⟩ (.slice none 0 0)).setCell ⟨w.heap.size,2,none⟩ (.slice none 0 0))):=aA0 (((((b0.trans (b1.mono (by omega))).setCell (p:=⟨w.heap.size,0,none⟩) (Nat.le_refl _) _).setCell (p:=⟨w.heap.size,1,none⟩) (Nat.le_refl _) _).setCell (p:=⟨w.heap.size,2,none⟩) (Nat.le_refl _) _))
 clear n1 n0 b0 b1 z0
 go_wp2_with fail
 have e0:=(aA1 HRR.out 0 (by simp)).1
 have e1:=(aA1 HRR.out 1 (by simp)).1
 have e2:=(aA1 HRR.out 2 (by simp)).1
 exact bodyPost_ret (aH1 _ _ w.heap.size _ _ _ undef (.iface T v) rfl rfl e0 e1 e2) rfl (aJE.bad HBAD.out HBE.out)
set_option maxRecDepth 20000 in
set_option maxHeartbeats 3200000 in
theorem aNK(ps:List Pt)(w:World)(B:Nat)(a:Option Addr)(c:Nat)(hc:ps.length≤c)(hR:aAZ w (·<B) ps a)(hB:B≤w.heap.size)(hz:∀i,i<ps.length→szP (pth ps i)≤1048576)(hG:GErr w)(hE:aDE ps=true)(hX:aBK ps okP=false):
  Calls Tryz.prog 53 #[.slice a ps.length c] w (aJE ps w):=by
 obtain⟨hl,hok⟩:=aOZ hE
 have b0:=aA2 w (.cells #[.string ⟨#[]⟩,.slice none 0 0,.slice none 0 0] 49)
 have n0:=aA3 (w:=w) (N:=w.heap.size) #[.string ⟨#[]⟩,.slice none 0 0,.slice none 0 0] 49 rfl
 have z0:w.heap.size<(w.alloc (.cells #[.string ⟨#[]⟩,.slice none 0 0,.slice none 0 0] 49)).heap.size:=by simp
 have HC:=aA0 (aEU ps _ B a c hc (hR.under (b0.mono hB)) (by omega) hz (hG.on b0))
 have HCB:Hid (aBK ps okP=(aE1 ps&&aE3 ps&&okP (allM ps))):=aA0 (by rw[aHJ,hE,aKJ hok];rfl)
 rw[hE] at HC
 have HRP:Hid (∀W,Below w.heap.size w W→aAZ W (·<B) ps a):=aA0 fun W hW=>hR.under (hW.mono hB)
 have HGE:Hid (∀W,Below w.heap.size w W→GErr W):=aA0 fun W hW=>hG.on hW
 have HGX:Hid (∃T v,Hid (∀W,Below w.heap.size w W→W.cell? ⟨0,0,none⟩=some (.iface T v))):=aA0 (by
  obtain⟨T,v,g⟩:=hG 0 (by omega)
  exact⟨T,v,aA0 fun W hW=>(hW.cell (aAA g)).trans g⟩)
 have HLO:=aA0 (And.intro hl (And.intro hok hB))
 have HSV:Hid (∀W,Below w.heap.size w W→Calls Tryz.prog 80 #[.slice a ps.length c] W fun e w'=>∃V:Sv,e=.returned (.agg (V.cells (.slice a ps.length c)))∧SuL w' (·<B) (W.heap.size+1) (suM ps) 1000 V∧Below W.heap.size W w'):=aA0 fun W hW=>aHT ps W B a c (hR.under (hW.mono hB)) (by have:=hW.size;omega) hl hok
 obtain⟨pl,HPL⟩:∃x,Hid (x=ps.length):=⟨_,aA0 rfl⟩
 rw[←HPL.out] at HC HSV ⊢
 clear hc hR hB hz hG hE hl hok
 go_enter Tryz.func53,Tryz.ntmps53
 go_upto_region 1 with fail
 generalize w.alloc (.cells #[.string ⟨#[]⟩,.slice none 0 0,.slice none 0 0] 49)=w0 at*
 have HBX:Hid (∀W,Below w0.heap.size w0 W→W.heap[w.heap.size]?=some (.cells #[.string ⟨#[]⟩,.slice none 0 0,.slice none 0 0] 49 (0,0))):=aA0 fun W hW=>(hW.block w.heap.size z0).trans n0
 have HBW:Hid (∀W,Below w0.heap.size w0 W→Below w.heap.size w W):=aA0 fun W hW=>b0.trans (hW.mono (by omega))
 have HZ0:=aA0 z0
 clear b0 n0 z0
 go_upto_region 4 with(
  go_at_call 79
  refine HC.out.mono ?_
  rintro e w1 ⟨⟨ev,rfl,hF,-⟩,b1⟩
  obtain rfl:=hF rfl)
 clear HC
 go_upto_region 5 with(
  go_at_call 80
  refine(HSV.out w1 (HBW.out w1 b1)).mono ?_
  rintro e w2 ⟨V,rfl,hS,b2⟩
  obtain⟨p1,r1,k1,p2,r2,k2,p3,r3,k3,p4,r4,k4,HV⟩:=hS.form (.slice a pl c)
  rw[HV])
 have HB2:=aA0 (b1.trans (b2.mono b1.size))
 have hm:=hS.l1.mlt
 have hz01:=b1.size
 have hBw:=HLO.out.2.2
 have hzw:=(HBW.out w1 b1).size
 have HSU:Hid (∀W,Below w2.heap.size w2 W→SuL W (·<B) (w1.heap.size+1) (suM ps) 1000 V):=aA0 fun W hW=>hS.under (fun b hb=>by have hb:b<B:=hb;omega) (by omega) hW
 have hlo2:w1.heap.size+1≤w2.heap.size:=by omega
 have hBP:∀b,b<B→b<w1.heap.size+1:=fun b hb=>by omega
 have HBP:=aA0 hBP
 have HW2:Hid (∀W,Below w2.heap.size w2 W→Below w.heap.size w W):=aA0 fun W hW=>HBW.out W (HB2.out.trans (hW.mono HB2.out.size))
 have HCA:Hid (∀W,Below w2.heap.size w2 W→Calls Tryz.prog 81 #[.agg #[.slice a pl c,.slice p1 r1 k1,.map (some V.m1),.slice p2 r2 k2,.map (some V.m2),.slice p3 r3 k3,.map (some V.m3),.slice p4 r4 k4,.map (some V.m4)]] W fun e w'=>aCU (aE1 ps) e∧Below W.heap.size W w'):=aA0 fun W hW=>by
  have h:=aG5 ps W B (w1.heap.size+1) 1000 V a c (HSU.out W hW) HBP.out (by have:=hW.size;omega) (by omega) (HRP.out W (HW2.out W hW)) HLO.out.1 HLO.out.2.1 (HGE.out W (HW2.out W hW))
  rw[←HPL.out,HV] at h
  exact h
 have HCK:Hid (∀W,Below w2.heap.size w2 W→Calls Tryz.prog 82 #[.agg #[.slice a pl c,.slice p1 r1 k1,.map (some V.m1),.slice p2 r2 k2,.map (some V.m2),.slice p3 r3 k3,.map (some V.m3),.slice p4 r4 k4,.map (some V.m4)]] W fun e w'=>aCU (aE3 ps) e∧Below W.heap.size W w'):=aA0 fun W hW=>by
  have h:=aG0 ps W B (w1.heap.size+1) 1000 V a c (HSU.out W hW) HBP.out (by have:=hW.size;omega) (by omega) (HRP.out W (HW2.out W hW)) HLO.out.1 HLO.out.2.1 (HGE.out W (HW2.out W hW))
  rw[←HPL.out,HV] at h
  exact h
 have HAL:Hid (∀W,Below w2.heap.size w2 W→Calls Tryz.prog 83 #[.agg #[.slice a pl c,.slice p1 r1 k1,.map (some V.m1),.slice p2 r2 k2,.map (some V.m2),.slice p3 r3 k3,.map (some V.m3),.slice p4 r4 k4,.map (some V.m4)]] W fun e w'=>∃ta tc,e=.returned (.agg #[.string ⟨#[97]⟩,.slice ta (allM ps).types.length tc])∧Below W.heap.size W w'∧PRep w' (fun b=>W.heap.size≤b∧b<w'.heap.size) (allM ps) (.agg #[.string ⟨#[97]⟩,.slice ta (allM ps).types.length tc])):=aA0 fun W hW=>by
  have h:=aOV ps W B (w1.heap.size+1) 1000 V a c (HSU.out W hW) HBP.out (by have:=hW.size;omega) (by omega) HLO.out.1 HLO.out.2.1
  rw[←HPL.out,HV] at h
  refine h.mono fun e w' hE=>?_
  obtain⟨ov,rfl,h2,h3⟩:=hE
  have h3':=h3
  obtain⟨ta,tc,e,-⟩:=h3'
  simp only[Value.agg.injEq,Array.mk.injEq,List.cons.injEq,and_true] at e
  obtain⟨-,rfl⟩:=e
  exact⟨ta,tc,rfl,h2,h3⟩
 have HOO:Hid (∀W,Below w2.heap.size w2 W→∀ta tc,PRep W (·<W.heap.size) (allM ps) (.agg #[.string ⟨#[97]⟩,.slice ta (allM ps).types.length tc])→Calls Tryz.prog 84 #[.agg #[.slice a pl c,.slice p1 r1 k1,.map (some V.m1),.slice p2 r2 k2,.map (some V.m2),.slice p3 r3 k3,.map (some V.m3),.slice p4 r4 k4,.map (some V.m4)],.agg #[.string ⟨#[97]⟩,.slice ta (allM ps).types.length tc]] W fun e w'=>∃oa oc,e=.returned (.slice oa (ownT ps (allM ps) (allM ps).types.length).length oc)∧Below W.heap.size W w'∧(ownT ps (allM ps) (allM ps).types.length).length≤oc∧aHG w' (fun b=>w1.heap.size+1≤b∧b<w'.heap.size) (ownT ps (allM ps) (allM ps).types.length) oa):=aA0 fun W hW ta tc hA=>by
  have h:=aI1 ps (HSU.out W hW) HBP.out (by have:=hW.size;omega) (by omega) HLO.out.2.1 a ps.length c (allM ps) ta tc ⟨#[97]⟩ hA (aH4 ps HLO.out.1 HLO.out.2.1)
  rw[←HPL.out,HV] at h
  exact h
 have b3:=aA2 w2 (.cells #[.slice a pl c,.slice p1 r1 k1,.map (some V.m1),.slice p2 r2 k2,.map (some V.m2),.slice p3 r3 k3,.map (some V.m3),.slice p4 r4 k4,.map (some V.m4)] 146)
 have n3:=aA3 (w:=w2) (N:=w2.heap.size) #[.slice a pl c,.slice p1 r1 k1,.map (some V.m1),.slice p2 r2 k2,.map (some V.m2),.slice p3 r3 k3,.map (some V.m3),.slice p4 r4 k4,.map (some V.m4)] 146 rfl
 have z3:w2.heap.size<(w2.alloc (.cells #[.slice a pl c,.slice p1 r1 k1,.map (some V.m1),.slice p2 r2 k2,.map (some V.m2),.slice p3 r3 k3,.map (some V.m3),.slice p4 r4 k4,.map (some V.m4)] 146)).heap.size:=by simp
 generalize w2.alloc (.cells #[.slice a pl c,.slice p1 r1 k1,.map (some V.m1),.slice p2 r2 k2,.map (some V.m2),.slice p3 r3 k3,.map (some V.m3),.slice p4 r4 k4,.map (some V.m4)] 146)=w3 at*
 have HSB:Hid (∀W,Below w3.heap.size w3 W→W.cell? ⟨w2.heap.size,0,none⟩=some (.slice a pl c)∧W.cell? ⟨w2.heap.size,1,none⟩=some (.slice p1 r1 k1)∧W.cell? ⟨w2.heap.size,2,none⟩=some (.map (some V.m1))∧W.cell? ⟨w2.heap.size,3,none⟩=some (.slice p2 r2 k2)∧W.cell? ⟨w2.heap.size,4,none⟩=some (.map (some V.m2))∧W.cell? ⟨w2.heap.size,5,none⟩=some (.slice p3 r3 k3)∧W.cell? ⟨w2.heap.size,6,none⟩=some (.map (some V.m3))∧W.cell? ⟨w2.heap.size,7,none⟩=some (.slice p4 r4 k4)∧W.cell? ⟨w2.heap.size,8,none⟩=some (.map (some V.m4))):=aA0 fun W hW=>by
  have h:=(hW.block w2.heap.size z3).trans n3
  exact⟨(aA1 h 0 (by simp)).1,(aA1 h 1 (by simp)).1,(aA1 h 2 (by simp)).1,(aA1 h 3 (by simp)).1,(aA1 h 4 (by simp)).1,(aA1 h 5 (by simp)).1,(aA1 h 6 (by simp)).1,(aA1 h 7 (by simp)).1,(aA1 h 8 (by simp)).1⟩
 have HW3:Hid (∀W,Below w3.heap.size w3 W→Below w2.heap.size w2 W):=aA0 fun W hW=>b3.trans (hW.mono b3.size)
 have H23:Hid (∀W,Below w3.heap.size w3 W→Below w0.heap.size w0 W):=aA0 fun W hW=>HB2.out.trans ((HW3.out W hW).mono HB2.out.size)
 obtain⟨s0,s1,s2,s3,s4,s5,s6,s7,s8⟩:=HSB.out w3 (Below.refl _ _)
 clear hS HV hm hz01 hBw hzw hlo2 hBP b1 b2 b3 n3 z3 HSV
 cases hA:aE1 ps
 ·have HBAD:Hid (aBK ps okP=false):=aA0 (by rw[HCB.out,hA];rfl)
  rw[hA] at HCA
  go_upto_region 6 with(
   go_at_call 81
   refine(HCA.out w3 (HW3.out w3 (Below.refl _ _))).mono ?_
   rintro e w4 ⟨⟨ev,rfl,-,hF⟩,b4⟩
   obtain⟨T,v,rfl⟩:=hF rfl)
  have nE:=HBX.out w4 (H23.out w4 b4)
  obtain⟨o0,y0⟩:=aA1 nE 0 (by simp)
  obtain⟨o1,y1⟩:=aA1 nE 1 (by simp)
  obtain⟨o2,y2⟩:=aA1 nE 2 (by simp)
  simp only[List.getElem_toArray,List.getElem_cons_zero,List.getElem_cons_succ] at o0 o1 o2
  have HRR:=aA0 (aDG nE (.string ⟨#[]⟩) (.slice none 0 0) (.slice none 0 0))
  have HBE:Hid (Below w.heap.size w (((w4.setCell ⟨w.heap.size,0,none⟩ (.string ⟨#[]⟩)).setCell ⟨w.heap.size,1,none⟩ (.slice none 0 0)).setCell ⟨w.heap.size,2,none⟩ (.slice none 0 0))):=aA0 (((((HBW.out w4 (H23.out w4 b4)).setCell (p:=⟨w.heap.size,0,none⟩) (Nat.le_refl _) _).setCell (p:=⟨w.heap.size,1,none⟩) (Nat.le_refl _) _).setCell (p:=⟨w.heap.size,2,none⟩) (Nat.le_refl _) _))
  clear nE
  go_wp2_with fail
  have e0:=(aA1 HRR.out 0 (by simp)).1
  have e1:=(aA1 HRR.out 1 (by simp)).1
  have e2:=(aA1 HRR.out 2 (by simp)).1
  exact bodyPost_ret (aH1 _ _ w.heap.size _ _ _ undef (.iface T v) rfl rfl e0 e1 e2) rfl (aJE.bad HBAD.out HBE.out)
 rw[hA] at HCA HCB
 go_upto_region 8 with(
  go_at_call 81
  refine(HCA.out w3 (HW3.out w3 (Below.refl _ _))).mono ?_
  rintro e w4 ⟨⟨ev,rfl,hF,-⟩,b4⟩
  obtain rfl:=hF rfl)
 clear s0 s1 s2 s3 s4 s5 s6 s7 s8 HCA
 obtain⟨s0,s1,s2,s3,s4,s5,s6,s7,s8⟩:=HSB.out w4 b4
 cases hK:aE3 ps
 ·have HBAD:Hid (aBK ps okP=false):=aA0 (by rw[HCB.out,hK];rfl)
  rw[hK] at HCK
  go_upto_region 9 with(
   go_at_call 82
   refine(HCK.out w4 (HW3.out w4 b4)).mono ?_
   rintro e w5 ⟨⟨ev,rfl,-,hF⟩,b5⟩
   obtain⟨T,v,rfl⟩:=hF rfl)
  have nE:=HBX.out w5 (H23.out w5 (b4.trans (b5.mono b4.size)))
  obtain⟨o0,y0⟩:=aA1 nE 0 (by simp)
  obtain⟨o1,y1⟩:=aA1 nE 1 (by simp)
  obtain⟨o2,y2⟩:=aA1 nE 2 (by simp)
  simp only[List.getElem_toArray,List.getElem_cons_zero,List.getElem_cons_succ] at o0 o1 o2
  have HRR:=aA0 (aDG nE (.string ⟨#[]⟩) (.slice none 0 0) (.slice none 0 0))
  have HBE:Hid (Below w.heap.size w (((w5.setCell ⟨w.heap.size,0,none⟩ (.string ⟨#[]⟩)).setCell ⟨w.heap.size,1,none⟩ (.slice none 0 0)).setCell ⟨w.heap.size,2,none⟩ (.slice none 0 0))):=aA0 (((((HBW.out w5 (H23.out w5 (b4.trans (b5.mono b4.size)))).setCell (p:=⟨w.heap.size,0,none⟩) (Nat.le_refl _) _).setCell (p:=⟨w.heap.size,1,none⟩) (Nat.le_refl _) _).setCell (p:=⟨w.heap.size,2,none⟩) (Nat.le_refl _) _))
  clear nE
  go_wp2_with fail
  have e0:=(aA1 HRR.out 0 (by simp)).1
  have e1:=(aA1 HRR.out 1 (by simp)).1
  have e2:=(aA1 HRR.out 2 (by simp)).1
  exact bodyPost_ret (aH1 _ _ w.heap.size _ _ _ undef (.iface T v) rfl rfl e0 e1 e2) rfl (aJE.bad HBAD.out HBE.out)
 rw[hK] at HCK HCB
 go_upto_region 11 with(
  go_at_call 82
  refine(HCK.out w4 (HW3.out w4 b4)).mono ?_
  rintro e w5 ⟨⟨ev,rfl,hF,-⟩,b5⟩
  obtain rfl:=hF rfl)
 clear s0 s1 s2 s3 s4 s5 s6 s7 s8 HCK
 have b35:=b4.trans (b5.mono b4.size)
 obtain⟨s0,s1,s2,s3,s4,s5,s6,s7,s8⟩:=HSB.out w5 b35
 obtain⟨al,HAN⟩:∃x,Hid (x=(allM ps).types.length):=⟨_,aA0 rfl⟩
 rw[←HAN.out] at HAL
 go_upto_region 12 with(
  go_at_call 83
  refine(HAL.out w5 (HW3.out w5 b35)).mono ?_
  rintro e w6 ⟨ta,tc,rfl,b6,hP6⟩)
 clear s0 s1 s2 s3 s4 s5 s6 s7 s8 HAL
 have b36:=b35.trans (b6.mono b35.size)
 have HPW:Hid (∀W,Below w6.heap.size w6 W→PRep W (·<W.heap.size) (allM ps) (.agg #[.string ⟨#[97]⟩,.slice ta al tc])):=aA0 fun W hW=>(hP6.mono fun b hb=>hW.block b hb.2).sub fun b hb=>Nat.lt_of_lt_of_le hb.2 hW.size
 have b7:=aA2 w6 (.cells #[.string ⟨#[97]⟩,.slice ta al tc] 46)
 have n7:=aA3 (w:=w6) (N:=w6.heap.size) #[.string ⟨#[97]⟩,.slice ta al tc] 46 rfl
 have z7:w6.heap.size<(w6.alloc (.cells #[.string ⟨#[97]⟩,.slice ta al tc] 46)).heap.size:=by simp
 generalize w6.alloc (.cells #[.string ⟨#[97]⟩,.slice ta al tc] 46)=w7 at*
 have HB7:=aA0 (b36.trans (b7.mono b36.size))
 have HW6':Hid (∀W,Below w7.heap.size w7 W→Below w6.heap.size w6 W):=aA0 fun W hW=>b7.trans (hW.mono (by omega))
 have HN7:Hid (∀W,Below w7.heap.size w7 W→W.cell? ⟨w6.heap.size,0,none⟩=some (.string ⟨#[97]⟩)∧W.cell? ⟨w6.heap.size,1,none⟩=some (.slice ta al tc)):=aA0 fun W hW=>by
  have h:=(hW.block w6.heap.size z7).trans n7
  exact⟨(aA1 h 0 (by simp)).1,(aA1 h 1 (by simp)).1⟩
 have HCP:=aA0 (aEN (allM ps) w7 w7.heap.size _ (HPW.out w7 b7) (Nat.le_refl _) (aH4 ps HLO.out.1 HLO.out.2.1))
 have HZ7:=aA0 z7
 have HB36:=aA0 b36.size
 clear b6 hP6 b7 n7 z7 b36 b35 b5 b4
 obtain⟨q0,q1⟩:=HN7.out w7 (Below.refl _ _)
 cases hO:okP (allM ps)
 ·have HBAD:Hid (aBK ps okP=false):=aA0 (by rw[HCB.out,hO];rfl)
  rcases aIZ _ hO with⟨x,hx⟩| ⟨i,x,hx⟩
  all_goals
   rw[hx] at HCP
   go_upto_region 13 with(
    go_at_call 66
    refine HCP.out.mono ?_
    rintro e w8 ⟨rfl,b8⟩)
   have bX:Below w0.heap.size w0 w8.drew:=(H23.out w8 (HB7.out.trans (b8.mono HB7.out.size))).drew
   have nE:=HBX.out w8.drew bX
   obtain⟨o0,y0⟩:=aA1 nE 0 (by simp)
   obtain⟨o1,y1⟩:=aA1 nE 1 (by simp)
   obtain⟨o2,y2⟩:=aA1 nE 2 (by simp)
   simp only[List.getElem_toArray,List.getElem_cons_zero,List.getElem_cons_succ] at o0 o1 o2
   have HRR:=aA0 (aDG nE (.string ⟨#[]⟩) (.slice none 0 0) (.slice none 0 0))
   have HBE:Hid (Below w.heap.size w (((w8.drew.setCell ⟨w.heap.size,0,none⟩ (.string ⟨#[]⟩)).setCell ⟨w.heap.size,1,none⟩ (.slice none 0 0)).setCell ⟨w.heap.size,2,none⟩ (.slice none 0 0))):=aA0 (((((HBW.out w8.drew bX).setCell (p:=⟨w.heap.size,0,none⟩) (Nat.le_refl _) _).setCell (p:=⟨w.heap.size,1,none⟩) (Nat.le_refl _) _).setCell (p:=⟨w.heap.size,2,none⟩) (Nat.le_refl _) _))
   clear nE b8 q0 q1
   obtain⟨T,v,HG0⟩:=HGX.out
   refine wp_region_held_drew (S:=(fun w'=>w'.cell? ⟨0,0,none⟩=some (.iface T v))) (by kernel_rfl) (HG0.out _ (HBW.out _ bX)) (fun hHeld=>?_)
   generalize w8.drew=wD at*
   refine tkH 0 hHeld ?_
   refine tkH 1 hHeld ?_
   refine rdyH [2] ?_
   refine rcH (fun K hK=>?_) AllReadyH.nil
   go_simp
   clear o0 o1 o2 y0 y1 y2
   refine hK.out _ _ (HG0.out _ HBE.out) (fun hHeld=>?_)
   clear hK K
   try simp only[Act.put,sIA,sI0,sIS]
   refine tkH 3 hHeld ?_
   refine wpAnyH_done (by kernel_rfl) ?_ _
   go_wp2_with fail
   have e0:=(aA1 HRR.out 0 (by simp)).1
   have e1:=(aA1 HRR.out 1 (by simp)).1
   have e2:=(aA1 HRR.out 2 (by simp)).1
   exact bodyPost_ret (aH1 _ _ w.heap.size _ _ _ undef (.iface T v) rfl rfl e0 e1 e2) rfl (aJE.bad HBAD.out HBE.out)
 exact absurd hX (by rw[HCB.out,hO];decide)
set_option maxRecDepth 20000 in
set_option maxHeartbeats 3200000 in
theorem aLZ(ps:List Pt)(w:World)(B:Nat)(a:Option Addr)(c:Nat)(hc:ps.length≤c)(hR:aAZ w (·<B) ps a)(hB:B≤w.heap.size)(hz:∀i,i<ps.length→szP (pth ps i)≤1048576)(hG:GErr w)(hE:aDE ps=true)(hX:aBK ps okP=true):
  Calls Tryz.prog 53 #[.slice a ps.length c] w (aJE ps w):=by
 obtain⟨hl,hok⟩:=aOZ hE
 have b0:=aA2 w (.cells #[.string ⟨#[]⟩,.slice none 0 0,.slice none 0 0] 49)
 have n0:=aA3 (w:=w) (N:=w.heap.size) #[.string ⟨#[]⟩,.slice none 0 0,.slice none 0 0] 49 rfl
 have z0:w.heap.size<(w.alloc (.cells #[.string ⟨#[]⟩,.slice none 0 0,.slice none 0 0] 49)).heap.size:=by simp
 have HC:=aA0 (aEU ps _ B a c hc (hR.under (b0.mono hB)) (by omega) hz (hG.on b0))
 have HCB:Hid (aBK ps okP=(aE1 ps&&aE3 ps&&okP (allM ps))):=aA0 (by rw[aHJ,hE,aKJ hok];rfl)
 rw[hE] at HC
 have HRP:Hid (∀W,Below w.heap.size w W→aAZ W (·<B) ps a):=aA0 fun W hW=>hR.under (hW.mono hB)
 have HGE:Hid (∀W,Below w.heap.size w W→GErr W):=aA0 fun W hW=>hG.on hW
 have HGX:Hid (∃T v,Hid (∀W,Below w.heap.size w W→W.cell? ⟨0,0,none⟩=some (.iface T v))):=aA0 (by
  obtain⟨T,v,g⟩:=hG 0 (by omega)
  exact⟨T,v,aA0 fun W hW=>(hW.cell (aAA g)).trans g⟩)
 have HLO:=aA0 (And.intro hl (And.intro hok hB))
 have HSV:Hid (∀W,Below w.heap.size w W→Calls Tryz.prog 80 #[.slice a ps.length c] W fun e w'=>∃V:Sv,e=.returned (.agg (V.cells (.slice a ps.length c)))∧SuL w' (·<B) (W.heap.size+1) (suM ps) 1000 V∧Below W.heap.size W w'):=aA0 fun W hW=>aHT ps W B a c (hR.under (hW.mono hB)) (by have:=hW.size;omega) hl hok
 obtain⟨pl,HPL⟩:∃x,Hid (x=ps.length):=⟨_,aA0 rfl⟩
 rw[←HPL.out] at HC HSV ⊢
 clear hc hR hB hz hG hE hl hok
 go_enter Tryz.func53,Tryz.ntmps53
 go_upto_region 1 with fail
 generalize w.alloc (.cells #[.string ⟨#[]⟩,.slice none 0 0,.slice none 0 0] 49)=w0 at*
 have HBX:Hid (∀W,Below w0.heap.size w0 W→W.heap[w.heap.size]?=some (.cells #[.string ⟨#[]⟩,.slice none 0 0,.slice none 0 0] 49 (0,0))):=aA0 fun W hW=>(hW.block w.heap.size z0).trans n0
 have HBW:Hid (∀W,Below w0.heap.size w0 W→Below w.heap.size w W):=aA0 fun W hW=>b0.trans (hW.mono (by omega))
 have HZ0:=aA0 z0
 clear b0 n0 z0
 go_upto_region 4 with(
  go_at_call 79
  refine HC.out.mono ?_
  rintro e w1 ⟨⟨ev,rfl,hF,-⟩,b1⟩
  obtain rfl:=hF rfl)
 clear HC
 go_upto_region 5 with(
  go_at_call 80
  refine(HSV.out w1 (HBW.out w1 b1)).mono ?_
  rintro e w2 ⟨V,rfl,hS,b2⟩
  obtain⟨p1,r1,k1,p2,r2,k2,p3,r3,k3,p4,r4,k4,HV⟩:=hS.form (.slice a pl c)
  rw[HV])
 have HB2:=aA0 (b1.trans (b2.mono b1.size))
 have hm:=hS.l1.mlt
 have hz01:=b1.size
 have hBw:=HLO.out.2.2
 have hzw:=(HBW.out w1 b1).size
 have HSU:Hid (∀W,Below w2.heap.size w2 W→SuL W (·<B) (w1.heap.size+1) (suM ps) 1000 V):=aA0 fun W hW=>hS.under (fun b hb=>by have hb:b<B:=hb;omega) (by omega) hW
 have hlo2:w1.heap.size+1≤w2.heap.size:=by omega
 have HB1Z:Hid (w0.heap.size≤w1.heap.size):=aA0 hz01
 have HXX:=aA0 hX
 have hBP:∀b,b<B→b<w1.heap.size+1:=fun b hb=>by omega
 have HBP:=aA0 hBP
 have HW2:Hid (∀W,Below w2.heap.size w2 W→Below w.heap.size w W):=aA0 fun W hW=>HBW.out W (HB2.out.trans (hW.mono HB2.out.size))
 have HCA:Hid (∀W,Below w2.heap.size w2 W→Calls Tryz.prog 81 #[.agg #[.slice a pl c,.slice p1 r1 k1,.map (some V.m1),.slice p2 r2 k2,.map (some V.m2),.slice p3 r3 k3,.map (some V.m3),.slice p4 r4 k4,.map (some V.m4)]] W fun e w'=>aCU (aE1 ps) e∧Below W.heap.size W w'):=aA0 fun W hW=>by
  have h:=aG5 ps W B (w1.heap.size+1) 1000 V a c (HSU.out W hW) HBP.out (by have:=hW.size;omega) (by omega) (HRP.out W (HW2.out W hW)) HLO.out.1 HLO.out.2.1 (HGE.out W (HW2.out W hW))
  rw[←HPL.out,HV] at h
  exact h
 have HCK:Hid (∀W,Below w2.heap.size w2 W→Calls Tryz.prog 82 #[.agg #[.slice a pl c,.slice p1 r1 k1,.map (some V.m1),.slice p2 r2 k2,.map (some V.m2),.slice p3 r3 k3,.map (some V.m3),.slice p4 r4 k4,.map (some V.m4)]] W fun e w'=>aCU (aE3 ps) e∧Below W.heap.size W w'):=aA0 fun W hW=>by
  have h:=aG0 ps W B (w1.heap.size+1) 1000 V a c (HSU.out W hW) HBP.out (by have:=hW.size;omega) (by omega) (HRP.out W (HW2.out W hW)) HLO.out.1 HLO.out.2.1 (HGE.out W (HW2.out W hW))
  rw[←HPL.out,HV] at h
  exact h
 have HAL:Hid (∀W,Below w2.heap.size w2 W→Calls Tryz.prog 83 #[.agg #[.slice a pl c,.slice p1 r1 k1,.map (some V.m1),.slice p2 r2 k2,.map (some V.m2),.slice p3 r3 k3,.map (some V.m3),.slice p4 r4 k4,.map (some V.m4)]] W fun e w'=>∃ta tc,e=.returned (.agg #[.string ⟨#[97]⟩,.slice ta (allM ps).types.length tc])∧Below W.heap.size W w'∧PRep w' (fun b=>W.heap.size≤b∧b<w'.heap.size) (allM ps) (.agg #[.string ⟨#[97]⟩,.slice ta (allM ps).types.length tc])):=aA0 fun W hW=>by
  have h:=aOV ps W B (w1.heap.size+1) 1000 V a c (HSU.out W hW) HBP.out (by have:=hW.size;omega) (by omega) HLO.out.1 HLO.out.2.1
  rw[←HPL.out,HV] at h
  refine h.mono fun e w' hE=>?_
  obtain⟨ov,rfl,h2,h3⟩:=hE
  have h3':=h3
  obtain⟨ta,tc,e,-⟩:=h3'
  simp only[Value.agg.injEq,Array.mk.injEq,List.cons.injEq,and_true] at e
  obtain⟨-,rfl⟩:=e
  exact⟨ta,tc,rfl,h2,h3⟩
 have HOO:Hid (∀W,Below w2.heap.size w2 W→∀ta tc,PRep W (·<W.heap.size) (allM ps) (.agg #[.string ⟨#[97]⟩,.slice ta (allM ps).types.length tc])→Calls Tryz.prog 84 #[.agg #[.slice a pl c,.slice p1 r1 k1,.map (some V.m1),.slice p2 r2 k2,.map (some V.m2),.slice p3 r3 k3,.map (some V.m3),.slice p4 r4 k4,.map (some V.m4)],.agg #[.string ⟨#[97]⟩,.slice ta (allM ps).types.length tc]] W fun e w'=>∃oa oc,e=.returned (.slice oa (ownT ps (allM ps) (allM ps).types.length).length oc)∧Below W.heap.size W w'∧(ownT ps (allM ps) (allM ps).types.length).length≤oc∧aHG w' (fun b=>w1.heap.size+1≤b∧b<w'.heap.size) (ownT ps (allM ps) (allM ps).types.length) oa):=aA0 fun W hW ta tc hA=>by
  have h:=aI1 ps (HSU.out W hW) HBP.out (by have:=hW.size;omega) (by omega) HLO.out.2.1 a ps.length c (allM ps) ta tc ⟨#[97]⟩ hA (aH4 ps HLO.out.1 HLO.out.2.1)
  rw[←HPL.out,HV] at h
  exact h
 have b3:=aA2 w2 (.cells #[.slice a pl c,.slice p1 r1 k1,.map (some V.m1),.slice p2 r2 k2,.map (some V.m2),.slice p3 r3 k3,.map (some V.m3),.slice p4 r4 k4,.map (some V.m4)] 146)
 have n3:=aA3 (w:=w2) (N:=w2.heap.size) #[.slice a pl c,.slice p1 r1 k1,.map (some V.m1),.slice p2 r2 k2,.map (some V.m2),.slice p3 r3 k3,.map (some V.m3),.slice p4 r4 k4,.map (some V.m4)] 146 rfl
 have z3:w2.heap.size<(w2.alloc (.cells #[.slice a pl c,.slice p1 r1 k1,.map (some V.m1),.slice p2 r2 k2,.map (some V.m2),.slice p3 r3 k3,.map (some V.m3),.slice p4 r4 k4,.map (some V.m4)] 146)).heap.size:=by simp
 generalize w2.alloc (.cells #[.slice a pl c,.slice p1 r1 k1,.map (some V.m1),.slice p2 r2 k2,.map (some V.m2),.slice p3 r3 k3,.map (some V.m3),.slice p4 r4 k4,.map (some V.m4)] 146)=w3 at*
 have HNB2:Hid (∀W,Below w3.heap.size w3 W→W.heap[w2.heap.size]?=some (.cells #[.slice a pl c,.slice p1 r1 k1,.map (some V.m1),.slice p2 r2 k2,.map (some V.m2),.slice p3 r3 k3,.map (some V.m3),.slice p4 r4 k4,.map (some V.m4)] 146 (0,0))):=aA0 fun W hW=>(hW.block w2.heap.size z3).trans n3
 have HSB:Hid (∀W,Below w3.heap.size w3 W→W.cell? ⟨w2.heap.size,0,none⟩=some (.slice a pl c)∧W.cell? ⟨w2.heap.size,1,none⟩=some (.slice p1 r1 k1)∧W.cell? ⟨w2.heap.size,2,none⟩=some (.map (some V.m1))∧W.cell? ⟨w2.heap.size,3,none⟩=some (.slice p2 r2 k2)∧W.cell? ⟨w2.heap.size,4,none⟩=some (.map (some V.m2))∧W.cell? ⟨w2.heap.size,5,none⟩=some (.slice p3 r3 k3)∧W.cell? ⟨w2.heap.size,6,none⟩=some (.map (some V.m3))∧W.cell? ⟨w2.heap.size,7,none⟩=some (.slice p4 r4 k4)∧W.cell? ⟨w2.heap.size,8,none⟩=some (.map (some V.m4))):=aA0 fun W hW=>by
  have h:=(hW.block w2.heap.size z3).trans n3
  exact⟨(aA1 h 0 (by simp)).1,(aA1 h 1 (by simp)).1,(aA1 h 2 (by simp)).1,(aA1 h 3 (by simp)).1,(aA1 h 4 (by simp)).1,(aA1 h 5 (by simp)).1,(aA1 h 6 (by simp)).1,(aA1 h 7 (by simp)).1,(aA1 h 8 (by simp)).1⟩
 have HW3:Hid (∀W,Below w3.heap.size w3 W→Below w2.heap.size w2 W):=aA0 fun W hW=>b3.trans (hW.mono b3.size)
 have H23:Hid (∀W,Below w3.heap.size w3 W→Below w0.heap.size w0 W):=aA0 fun W hW=>HB2.out.trans ((HW3.out W hW).mono HB2.out.size)
 obtain⟨s0,s1,s2,s3,s4,s5,s6,s7,s8⟩:=HSB.out w3 (Below.refl _ _)
 clear hS HV hm hz01 hBw hzw hlo2 hBP b1 b2 b3 n3 z3 HSV
 have hAKO:aE1 ps=true∧aE3 ps=true∧okP (allM ps)=true:=by
  have:=hX
  rw[HCB.out] at this
  simpa[Bool.and_eq_true,and_assoc] using this
 obtain⟨hA,hK,hO⟩:=hAKO
 rw[hA] at HCA
 go_upto_region 8 with(
  go_at_call 81
  refine(HCA.out w3 (HW3.out w3 (Below.refl _ _))).mono ?_
  rintro e w4 ⟨⟨ev,rfl,hF,-⟩,b4⟩
  obtain rfl:=hF rfl)
 clear s0 s1 s2 s3 s4 s5 s6 s7 s8 HCA
 obtain⟨s0,s1,s2,s3,s4,s5,s6,s7,s8⟩:=HSB.out w4 b4
 rw[hK] at HCK
 go_upto_region 11 with(
  go_at_call 82
  refine(HCK.out w4 (HW3.out w4 b4)).mono ?_
  rintro e w5 ⟨⟨ev,rfl,hF,-⟩,b5⟩
  obtain rfl:=hF rfl)
 clear s0 s1 s2 s3 s4 s5 s6 s7 s8 HCK
 have b35:=b4.trans (b5.mono b4.size)
 obtain⟨s0,s1,s2,s3,s4,s5,s6,s7,s8⟩:=HSB.out w5 b35
 obtain⟨al,HAN⟩:∃x,Hid (x=(allM ps).types.length):=⟨_,aA0 rfl⟩
 rw[←HAN.out] at HAL
 go_upto_region 12 with(
  go_at_call 83
  refine(HAL.out w5 (HW3.out w5 b35)).mono ?_
  rintro e w6 ⟨ta,tc,rfl,b6,hP6⟩)
 clear s0 s1 s2 s3 s4 s5 s6 s7 s8 HAL
 have b36:=b35.trans (b6.mono b35.size)
 have HPN:Hid (∀W,Below w6.heap.size w6 W→PRep W (fun b=>w5.heap.size≤b∧b<W.heap.size) (allM ps) (.agg #[.string ⟨#[97]⟩,.slice ta al tc])):=aA0 fun W hW=>(hP6.mono fun b hb=>hW.block b hb.2).sub fun b hb=>⟨hb.1,Nat.lt_of_lt_of_le hb.2 hW.size⟩
 have HZ35:=aA0 b35.size
 have HPW:Hid (∀W,Below w6.heap.size w6 W→PRep W (·<W.heap.size) (allM ps) (.agg #[.string ⟨#[97]⟩,.slice ta al tc])):=aA0 fun W hW=>(hP6.mono fun b hb=>hW.block b hb.2).sub fun b hb=>Nat.lt_of_lt_of_le hb.2 hW.size
 have b7:=aA2 w6 (.cells #[.string ⟨#[97]⟩,.slice ta al tc] 46)
 have n7:=aA3 (w:=w6) (N:=w6.heap.size) #[.string ⟨#[97]⟩,.slice ta al tc] 46 rfl
 have z7:w6.heap.size<(w6.alloc (.cells #[.string ⟨#[97]⟩,.slice ta al tc] 46)).heap.size:=by simp
 generalize w6.alloc (.cells #[.string ⟨#[97]⟩,.slice ta al tc] 46)=w7 at*
 have HB7:=aA0 (b36.trans (b7.mono b36.size))
 have HW6':Hid (∀W,Below w7.heap.size w7 W→Below w6.heap.size w6 W):=aA0 fun W hW=>b7.trans (hW.mono (by omega))
 have HNB7:Hid (∀W,Below w7.heap.size w7 W→W.heap[w6.heap.size]?=some (.cells #[.string ⟨#[97]⟩,.slice ta al tc] 46 (0,0))):=aA0 fun W hW=>(hW.block w6.heap.size z7).trans n7
 have HN7:Hid (∀W,Below w7.heap.size w7 W→W.cell? ⟨w6.heap.size,0,none⟩=some (.string ⟨#[97]⟩)∧W.cell? ⟨w6.heap.size,1,none⟩=some (.slice ta al tc)):=aA0 fun W hW=>by
  have h:=(hW.block w6.heap.size z7).trans n7
  exact⟨(aA1 h 0 (by simp)).1,(aA1 h 1 (by simp)).1⟩
 have HCP:=aA0 (aEN (allM ps) w7 w7.heap.size _ (HPW.out w7 b7) (Nat.le_refl _) (aH4 ps HLO.out.1 HLO.out.2.1))
 have HZ7:=aA0 z7
 have HB36:=aA0 b36.size
 clear b6 hP6 b7 n7 z7 b36 b35 b5 b4
 obtain⟨q0,q1⟩:=HN7.out w7 (Below.refl _ _)
 have HCP':=HCP.out
 rw[aKH _ hO] at HCP'
 replace HCP:=aA0 HCP'
 clear HCP'
 go_upto_region 14 with(
  go_at_call 66
  refine HCP.out.mono ?_
  rintro e w8 ⟨rfl,b8⟩)
 clear q0 q1 HCP
 rw[←HAN.out] at HOO
 obtain⟨ol,HOL⟩:∃x,Hid (x=(ownT ps (allM ps) al).length):=⟨_,aA0 rfl⟩
 rw[←HOL.out] at HOO
 have HB8:=aA0 b8
 have HX7:Hid (∀W,Below w8.heap.size w8 W→Below w7.heap.size w7 W):=aA0 fun W hW=>HB8.out.trans (hW.mono HB8.out.size)
 have HX3:Hid (∀W,Below w8.heap.size w8 W→Below w3.heap.size w3 W):=aA0 fun W hW=>HB7.out.trans ((HX7.out W hW).mono HB7.out.size)
 have HW7:Hid (∀W,Below w8.heap.size w8 W→Below w2.heap.size w2 W):=aA0 fun W hW=>HW3.out W (HX3.out W hW)
 have HW8:Hid (∀W,Below w8.heap.size w8 W→Below w0.heap.size w0 W):=aA0 fun W hW=>H23.out W (HX3.out W hW)
 have HW6:Hid (∀W,Below w8.heap.size w8 W→Below w6.heap.size w6 W):=aA0 fun W hW=>HW6'.out W (HX7.out W hW)
 have HS8:Hid (∀W,Below w8.heap.size w8 W→(W.cell? ⟨w2.heap.size,0,none⟩=some (.slice a pl c)∧W.cell? ⟨w2.heap.size,1,none⟩=some (.slice p1 r1 k1)∧W.cell? ⟨w2.heap.size,2,none⟩=some (.map (some V.m1))∧W.cell? ⟨w2.heap.size,3,none⟩=some (.slice p2 r2 k2)∧W.cell? ⟨w2.heap.size,4,none⟩=some (.map (some V.m2))∧W.cell? ⟨w2.heap.size,5,none⟩=some (.slice p3 r3 k3)∧W.cell? ⟨w2.heap.size,6,none⟩=some (.map (some V.m3))∧W.cell? ⟨w2.heap.size,7,none⟩=some (.slice p4 r4 k4)∧W.cell? ⟨w2.heap.size,8,none⟩=some (.map (some V.m4)))∧W.cell? ⟨w6.heap.size,0,none⟩=some (.string ⟨#[97]⟩)∧W.cell? ⟨w6.heap.size,1,none⟩=some (.slice ta al tc)):=aA0 fun W hW=>⟨HSB.out W (HX3.out W hW),HN7.out W (HX7.out W hW)⟩
 have HFIN:Hid (∀W,Below w8.heap.size w8 W→∀oa oc,(ol≤oc∧aHG W (fun b=>w1.heap.size+1≤b∧b<W.heap.size) (ownT ps (allM ps) al) oa)→(((((W.setCell ⟨w.heap.size,0,none⟩ (.string ⟨#[97]⟩)).setCell ⟨w.heap.size,1,none⟩ (.slice ta al tc)).setCell ⟨w.heap.size,2,none⟩ (.slice oa ol oc)).cell? ⟨w2.heap.size,0,none⟩=some (.slice a pl c)∧(((W.setCell ⟨w.heap.size,0,none⟩ (.string ⟨#[97]⟩)).setCell ⟨w.heap.size,1,none⟩ (.slice ta al tc)).setCell ⟨w.heap.size,2,none⟩ (.slice oa ol oc)).cell? ⟨w2.heap.size,1,none⟩=some (.slice p1 r1 k1)∧(((W.setCell ⟨w.heap.size,0,none⟩ (.string ⟨#[97]⟩)).setCell ⟨w.heap.size,1,none⟩ (.slice ta al tc)).setCell ⟨w.heap.size,2,none⟩ (.slice oa ol oc)).cell? ⟨w2.heap.size,2,none⟩=some (.map (some V.m1))∧(((W.setCell ⟨w.heap.size,0,none⟩ (.string ⟨#[97]⟩)).setCell ⟨w.heap.size,1,none⟩ (.slice ta al tc)).setCell ⟨w.heap.size,2,none⟩ (.slice oa ol oc)).cell? ⟨w2.heap.size,3,none⟩=some (.slice p2 r2 k2)∧(((W.setCell ⟨w.heap.size,0,none⟩ (.string ⟨#[97]⟩)).setCell ⟨w.heap.size,1,none⟩ (.slice ta al tc)).setCell ⟨w.heap.size,2,none⟩ (.slice oa ol oc)).cell? ⟨w2.heap.size,4,none⟩=some (.map (some V.m2))∧(((W.setCell ⟨w.heap.size,0,none⟩ (.string ⟨#[97]⟩)).setCell ⟨w.heap.size,1,none⟩ (.slice ta al tc)).setCell ⟨w.heap.size,2,none⟩ (.slice oa ol oc)).cell? ⟨w2.heap.size,5,none⟩=some (.slice p3 r3 k3)∧(((W.setCell ⟨w.heap.size,0,none⟩ (.string ⟨#[97]⟩)).setCell ⟨w.heap.size,1,none⟩ (.slice ta al tc)).setCell ⟨w.heap.size,2,none⟩ (.slice oa ol oc)).cell? ⟨w2.heap.size,6,none⟩=some (.map (some V.m3))∧(((W.setCell ⟨w.heap.size,0,none⟩ (.string ⟨#[97]⟩)).setCell ⟨w.heap.size,1,none⟩ (.slice ta al tc)).setCell ⟨w.heap.size,2,none⟩ (.slice oa ol oc)).cell? ⟨w2.heap.size,7,none⟩=some (.slice p4 r4 k4)∧(((W.setCell ⟨w.heap.size,0,none⟩ (.string ⟨#[97]⟩)).setCell ⟨w.heap.size,1,none⟩ (.slice ta al tc)).setCell ⟨w.heap.size,2,none⟩ (.slice oa ol oc)).cell? ⟨w2.heap.size,8,none⟩=some (.map (some V.m4)))∧(((W.setCell ⟨w.heap.size,0,none⟩ (.string ⟨#[97]⟩)).setCell ⟨w.heap.size,1,none⟩ (.slice ta al tc)).setCell ⟨w.heap.size,2,none⟩ (.slice oa ol oc)).cell? ⟨w6.heap.size,0,none⟩=some (.string ⟨#[97]⟩)∧(((W.setCell ⟨w.heap.size,0,none⟩ (.string ⟨#[97]⟩)).setCell ⟨w.heap.size,1,none⟩ (.slice ta al tc)).setCell ⟨w.heap.size,2,none⟩ (.slice oa ol oc)).cell? ⟨w6.heap.size,1,none⟩=some (.slice ta al tc))∧aJE ps w (.returned (.tuple #[.agg #[.string ⟨#[97]⟩,.slice ta al tc,.slice oa ol oc],.nilIface])) ((((W.setCell ⟨w.heap.size,0,none⟩ (.string ⟨#[97]⟩)).setCell ⟨w.heap.size,1,none⟩ (.slice ta al tc)).setCell ⟨w.heap.size,2,none⟩ (.slice oa ol oc)))):=aA0 fun W hW oa oc ho=>by
  have u0:=HZ0.out
  have u1:=HB1Z.out
  have u2:=HB2.out.size
  have u3:=(HW3.out w3 (Below.refl _ _)).size
  have u4:=HZ35.out
  have u6:=HB36.out
  have hne:∀b,b≠w.heap.size→((((W.setCell ⟨w.heap.size,0,none⟩ (.string ⟨#[97]⟩)).setCell ⟨w.heap.size,1,none⟩ (.slice ta al tc)).setCell ⟨w.heap.size,2,none⟩ (.slice oa ol oc))).heap[b]?=W.heap[b]?:=fun b hb=>by
   rw[Below.heap_setCell _ _ _ _ (by exact hb),Below.heap_setCell _ _ _ _ (by exact hb),Below.heap_setCell _ _ _ _ (by exact hb)]
  have hsz:((((W.setCell ⟨w.heap.size,0,none⟩ (.string ⟨#[97]⟩)).setCell ⟨w.heap.size,1,none⟩ (.slice ta al tc)).setCell ⟨w.heap.size,2,none⟩ (.slice oa ol oc))).heap.size=W.heap.size:=by simp
  have h2:=(hne w2.heap.size (by omega)).trans (HNB2.out W (HX3.out W hW))
  have h7:=(hne w6.heap.size (by omega)).trans (HNB7.out W (HX7.out W hW))
  have hbw:Below w.heap.size w ((((W.setCell ⟨w.heap.size,0,none⟩ (.string ⟨#[97]⟩)).setCell ⟨w.heap.size,1,none⟩ (.slice ta al tc)).setCell ⟨w.heap.size,2,none⟩ (.slice oa ol oc))):=(((HBW.out W (HW8.out W hW)).setCell (p:=⟨w.heap.size,0,none⟩) (Nat.le_refl _) _).setCell (p:=⟨w.heap.size,1,none⟩) (Nat.le_refl _) _).setCell (p:=⟨w.heap.size,2,none⟩) (Nat.le_refl _) _
  have hPn:=HPN.out W (HW6.out W hW)
  generalize (((W.setCell ⟨w.heap.size,0,none⟩ (.string ⟨#[97]⟩)).setCell ⟨w.heap.size,1,none⟩ (.slice ta al tc)).setCell ⟨w.heap.size,2,none⟩ (.slice oa ol oc))=WZ at*
  refine⟨⟨⟨(aA1 h2 0 (by simp)).1,(aA1 h2 1 (by simp)).1,(aA1 h2 2 (by simp)).1,(aA1 h2 3 (by simp)).1,(aA1 h2 4 (by simp)).1,(aA1 h2 5 (by simp)).1,(aA1 h2 6 (by simp)).1,(aA1 h2 7 (by simp)).1,(aA1 h2 8 (by simp)).1⟩,(aA1 h7 0 (by simp)).1,(aA1 h7 1 (by simp)).1⟩,_,_,rfl,⟨_,_,_,_,_,_,_,rfl⟩,hbw,fun _=>⟨rfl,?_⟩,fun h=>by rw[HXX.out] at h;cases h⟩
  refine⟨ta,oa,tc,oc,?_,?_,?_,?_⟩
  ·show _=Value.agg #[.string ⟨#[97]⟩,.slice ta (allM ps).types.length tc,.slice oa (ownT ps (allM ps) (allM ps).types.length).length oc]
   rw[←HAN.out,←HOL.out]
  ·show PRep WZ (fun b=>w.heap.size<b∧b<WZ.heap.size) (allM ps) (.agg #[.string ⟨#[97]⟩,.slice ta (allM ps).types.length tc])
   rw[←HAN.out]
   exact(hPn.mono fun b hb=>hne b (by omega)).sub fun b hb=>by omega
  ·show aHG WZ (fun b=>w.heap.size<b∧b<WZ.heap.size) (ownT ps (allM ps) (allM ps).types.length) oa
   rw[←HAN.out]
   exact(ho.2.mono fun b hb=>hne b (by omega)).sub fun b hb=>by omega
  ·show(ownT ps (allM ps) (allM ps).types.length).length≤oc
   rw[←HAN.out,←HOL.out]
   exact ho.1
 have bX:Below w8.heap.size w8 w8.drew:=(Below.refl _ _).drew
 clear b8
 refine wp_region_held_drew (S:=(fun W=>(W.cell? ⟨w2.heap.size,0,none⟩=some (.slice a pl c)∧W.cell? ⟨w2.heap.size,1,none⟩=some (.slice p1 r1 k1)∧W.cell? ⟨w2.heap.size,2,none⟩=some (.map (some V.m1))∧W.cell? ⟨w2.heap.size,3,none⟩=some (.slice p2 r2 k2)∧W.cell? ⟨w2.heap.size,4,none⟩=some (.map (some V.m2))∧W.cell? ⟨w2.heap.size,5,none⟩=some (.slice p3 r3 k3)∧W.cell? ⟨w2.heap.size,6,none⟩=some (.map (some V.m3))∧W.cell? ⟨w2.heap.size,7,none⟩=some (.slice p4 r4 k4)∧W.cell? ⟨w2.heap.size,8,none⟩=some (.map (some V.m4)))∧W.cell? ⟨w6.heap.size,0,none⟩=some (.string ⟨#[97]⟩)∧W.cell? ⟨w6.heap.size,1,none⟩=some (.slice ta al tc))) (by kernel_rfl) (HS8.out _ bX) (fun hHeld=>?_)
 generalize w8.drew=wD at*
 refine tkH 0 hHeld ?_
 refine tkH 1 hHeld ?_
 refine tkH 2 hHeld ?_
 refine rdyH [3] ?_
 refine rcH (fun K hK=>?_) AllReadyH.nil
 go_simp
 refine(HOO.out wD (HW7.out wD bX) ta tc (HPW.out wD (HW6.out wD bX))).mono ?_
 rintro e wO ⟨oa,oc,rfl,bO,hoc,hOs⟩
 have bX:=bX.trans (bO.mono bX.size)
 have HOS:=aA0 (And.intro hoc hOs)
 clear bO hoc hOs
 refine hK.out _ _ (HS8.out _ bX) (fun hHeld=>?_)
 clear hK K
 try simp only[Act.put,sIA,sI0,sIS]
 refine tkH 4 hHeld ?_
 refine rdyH [5] ?_
 refine rcH (fun K hK=>?_) AllReadyH.nil
 have nE:=HBX.out wO (HW8.out wO bX)
 obtain⟨o0,y0⟩:=aA1 nE 0 (by simp)
 obtain⟨o1,y1⟩:=aA1 nE 1 (by simp)
 obtain⟨o2,y2⟩:=aA1 nE 2 (by simp)
 simp only[List.getElem_toArray,List.getElem_cons_zero,List.getElem_cons_succ] at o0 o1 o2
 have HRR:=aA0 (aDG nE (.string ⟨#[97]⟩) (.slice ta al tc) (.slice oa ol oc))
 have HFF:=aA0 (HFIN.out wO bX oa oc HOS.out)
 clear nE
 go_simp
 clear o0 o1 o2 y0 y1 y2
 refine hK.out _ _ HFF.out.1 (fun hHeld=>?_)
 clear hK K
 try simp only[Act.put,sIA,sI0,sIS]
 refine tkH 6 hHeld ?_
 refine wpAnyH_done (by kernel_rfl) ?_ _
 go_wp2_with fail
 have e0:=(aA1 HRR.out 0 (by simp)).1
 have e1:=(aA1 HRR.out 1 (by simp)).1
 have e2:=(aA1 HRR.out 2 (by simp)).1
 exact bodyPost_ret (aH1 _ _ w.heap.size _ _ _ undef .nilIface rfl rfl e0 e1 e2) rfl HFF.out.2
theorem aN5(ps:List Pt)(w:World)(B:Nat)(a:Option Addr)(c:Nat)(hc:ps.length≤c)(hR:aAZ w (·<B) ps a)(hB:B≤w.heap.size)(hz:∀i,i<ps.length→szP (pth ps i)≤1048576)(hG:GErr w):
  Calls Tryz.prog 53 #[.slice a ps.length c] w (aJE ps w):=by
 cases hE:aDE ps
 ·exact aMU ps w B a c hc hR hB hz hG hE
 ·cases hX:aBK ps okP
  ·exact aNK ps w B a c hc hR hB hz hG hE hX
  ·exact aLZ ps w B a c hc hR hB hz hG hE hX
end Go.Proofs.YtcebpkeiaiiphaaGreatDoor
