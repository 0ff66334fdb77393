import Derived.Test.YtcebpkeiaiiphaaGreatDoorRC33
set_option linter.unusedSimpArgs false
set_option linter.unusedVariables false
namespace Go.Proofs.YtcebpkeiaiiphaaGreatDoor
open Go.RowKit Go.Maps
attribute [local go_sem] Oper.semAt_some
def badX(X:Su)(nm:ByteArray)(f:F):Bool:=
 decide ((X.ow nm f.name).length=0)||(decide (1<(X.ow nm f.name).length)&&!(f.name.toList==(aGP (X.ky nm)).toList)&&!decide (aBP (X.sd nm f.name)=(X.ow nm f.name).length))||
  ((decide (1<(X.ow nm f.name).length)&&aBL (X.sd nm f.name))||f.needs.any fun need=>aBL (X.sd nm need))
theorem aD1.bad{ok:Bool}{T:TypeId}{v:Value}(h:ok=false):aD1 ok (.returned (.iface T v)):=⟨_,rfl,(fun e=>by rw[h] at e;cases e),fun _=>⟨T,v,rfl⟩⟩
theorem aD1.good{ok:Bool}(h:ok=true):aD1 ok (.returned .nilIface):=⟨_,rfl,fun _=>rfl,(fun e=>by rw[h] at e;cases e)⟩
section
variable {w:World} {P:Nat->Prop} {B:Nat} {X:Su} {c:Nat} {V:Sv}
set_option maxRecDepth 20000 in
set_option maxHeartbeats 6400000 in
theorem aK7(h:SuL w P B X c V)(hP:∀b,P b->b<B)(hB:B<=w.heap.size)(hc:c<=100000)(hG:GErr w)(pa:Option Addr)(pl pc:Nat)(nm:ByteArray)(f:F)(na:Option Addr)(nc:Nat)(hS:Strs w (·<w.heap.size) f.needs na):
  Calls Tryz.prog 117 #[.agg (V.cells (.slice pa pl pc)),.string nm,.agg #[.string f.name,.string f.of,.bool f.list,.bool f.must,.bool f.far,.bool f.hidden,.bool f.shared,.slice na f.needs.length nc]] w fun e w'=>aD1 (!badX X nm f) e∧Below w.heap.size w w':=by
 obtain⟨p1,r1,k1,p2,r2,k2,p3,r3,k3,p4,r4,k4,HV⟩:=h.form (.slice pa pl pc);have HKO:=aA0 (fun W (hW:Below w.heap.size w W)=>aJU (h.under hP hB hW) pa pl pc nm);have HSH:=aA0 (fun W (hW:Below w.heap.size w W)=>aOA (h.under hP hB hW) hP (Nat.le_trans hB hW.size) hc pa pl pc nm f.name);have HHN:=aA0 (fun W (hW:Below w.heap.size w W)=>aHV (h.under hP hB hW) hP (Nat.le_trans hB hW.size) hc pa pl pc nm f.name);have HON:=aA0 (fun W (hW:Below w.heap.size w W)=>aMY (h.under hP hB hW) hP (Nat.le_trans hB hW.size) hc pa pl pc nm f na nc ((hS.mono fun b hb=>hW.block b hb).sub fun b hb=>Nat.lt_of_lt_of_le hb hW.size));obtain⟨oa,ok,-,-,hlk⟩:=h.owns hc nm f.name;have hol:=h.le.ow nm f.name;have HBD:Hid (badX X nm f=(decide ((X.ow nm f.name).length=0)||(decide (1<(X.ow nm f.name).length)&&!(f.name.toList==(aGP (X.ky nm)).toList)&&!decide (aBP (X.sd nm f.name)=(X.ow nm f.name).length))||((decide (1<(X.ow nm f.name).length)&&aBL (X.sd nm f.name))||f.needs.any fun need=>aBL (X.sd nm need)))):=aA0 rfl;obtain⟨bad,hbad⟩:∃b,b=badX X nm f:=⟨_,rfl⟩;rw[<-hbad] at HBD ⊢;clear hbad;generalize (X.ow nm f.name).length=o at*;generalize aGP (X.ky nm)=ky at*;have hsl:aBP (X.sd nm f.name)<=100000:=Nat.le_trans List.countP_le_length (Nat.le_trans (h.le.sd nm f.name) hc);generalize aBP (X.sd nm f.name)=sh at*;generalize aBL (X.sd nm f.name)=hn at*;generalize (f.needs.any fun need=>aBL (X.sd nm need))=on at*;obtain⟨nl,HNL⟩:∃x,Hid (x=f.needs.length):=⟨_,aA0 rfl⟩;rw[HV] at HKO HSH HHN HON ⊢;rw[<-HNL.out] at HON ⊢;clear h hS HV;obtain⟨X0,hX0⟩:∃x,x=((w.alloc (.cells #[.slice pa pl pc,.slice p1 r1 k1,.map (some V.m1),.slice p2 r2 k2,.map (some V.m2),.slice p3 r3 k3,.map (some V.m3),.slice p4 r4 k4,.map (some V.m4)] 146)).alloc (.cells #[.string f.name,.string f.of,.bool f.list,.bool f.must,.bool f.far,.bool f.hidden,.bool f.shared,.slice na nl nc] 80)).alloc (.cells #[.string nm,.string f.name] 153):=⟨_,rfl⟩
 have bX:Below w.heap.size w X0:=by rw[hX0];exact(((Below.refl w.heap.size w).alloc (Nat.le_refl _) _).alloc (by simp) _).alloc (by simp;omega) _
 have zX:X0.heap.size=w.heap.size+3:=by rw[hX0];simp
 have n0:X0.heap[w.heap.size]?=some (.cells #[.slice pa pl pc,.slice p1 r1 k1,.map (some V.m1),.slice p2 r2 k2,.map (some V.m2),.slice p3 r3 k3,.map (some V.m3),.slice p4 r4 k4,.map (some V.m4)] 146 (0,0)):=by
  rw[hX0,(aA6 (w.alloc _) _ _).block w.heap.size (by simp)]
  exact aA3 _ _ rfl
 have n1:X0.heap[w.heap.size+1]?=some (.cells #[.string f.name,.string f.of,.bool f.list,.bool f.must,.bool f.far,.bool f.hidden,.bool f.shared,.slice na nl nc] 80 (0,0)):=by
  rw[hX0,(aA2 _ _).block (w.heap.size+1) (by simp)]
  exact aA3 _ _ (by simp)
 have n2:X0.heap[w.heap.size+2]?=some (.cells #[.string nm,.string f.name] 153 (0,0)):=by
  rw[hX0];exact aA3 _ _ (by simp)
 have HCS:Hid (∀W,Below X0.heap.size X0 W->W.cell? ⟨w.heap.size,0,none⟩=some (.slice pa pl pc)∧W.cell? ⟨w.heap.size,1,none⟩=some (.slice p1 r1 k1)∧W.cell? ⟨w.heap.size,2,none⟩=some (.map (some V.m1))∧W.cell? ⟨w.heap.size,3,none⟩=some (.slice p2 r2 k2)∧W.cell? ⟨w.heap.size,4,none⟩=some (.map (some V.m2))∧W.cell? ⟨w.heap.size,5,none⟩=some (.slice p3 r3 k3)∧W.cell? ⟨w.heap.size,6,none⟩=some (.map (some V.m3))∧W.cell? ⟨w.heap.size,7,none⟩=some (.slice p4 r4 k4)∧W.cell? ⟨w.heap.size,8,none⟩=some (.map (some V.m4))):=aA0 fun W hW=>by
  have h:=(hW.block w.heap.size (by omega)).trans n0
  exact⟨(aA1 h 0 (by simp)).1,(aA1 h 1 (by simp)).1,(aA1 h 2 (by simp)).1,(aA1 h 3 (by simp)).1,(aA1 h 4 (by simp)).1,(aA1 h 5 (by simp)).1,(aA1 h 6 (by simp)).1,(aA1 h 7 (by simp)).1,(aA1 h 8 (by simp)).1⟩
 have HCF:Hid (∀W,Below X0.heap.size X0 W->W.cell? ⟨w.heap.size+1,0,none⟩=some (.string f.name)∧W.cell? ⟨w.heap.size+1,1,none⟩=some (.string f.of)∧W.cell? ⟨w.heap.size+1,2,none⟩=some (.bool f.list)∧W.cell? ⟨w.heap.size+1,3,none⟩=some (.bool f.must)∧W.cell? ⟨w.heap.size+1,4,none⟩=some (.bool f.far)∧W.cell? ⟨w.heap.size+1,5,none⟩=some (.bool f.hidden)∧W.cell? ⟨w.heap.size+1,6,none⟩=some (.bool f.shared)∧W.cell? ⟨w.heap.size+1,7,none⟩=some (.slice na nl nc)):=aA0 fun W hW=>by
  have h:=(hW.block (w.heap.size+1) (by omega)).trans n1
  exact⟨(aA1 h 0 (by simp)).1,(aA1 h 1 (by simp)).1,(aA1 h 2 (by simp)).1,(aA1 h 3 (by simp)).1,(aA1 h 4 (by simp)).1,(aA1 h 5 (by simp)).1,(aA1 h 6 (by simp)).1,(aA1 h 7 (by simp)).1⟩
 have HCK:Hid (∀W,Below X0.heap.size X0 W->W.cell? ⟨w.heap.size+2,0,none⟩=some (.string nm)∧W.cell? ⟨w.heap.size+2,1,none⟩=some (.string f.name)):=aA0 fun W hW=>by
  have h:=(hW.block (w.heap.size+2) (by omega)).trans n2
  exact⟨(aA1 h 0 (by simp)).1,(aA1 h 1 (by simp)).1⟩
 have HBW:Hid (∀W,Below X0.heap.size X0 W->Below w.heap.size w W):=aA0 fun W hW=>bX.trans (hW.mono (by omega))
 have HGE:Hid (∀W,Below X0.heap.size X0 W->GErr W):=aA0 fun W hW=>hG.on (HBW.out W hW);have HSS:Hid (∀W,Below X0.heap.size X0 W->(W.cell? ⟨w.heap.size,0,none⟩=some (.slice pa pl pc)∧W.cell? ⟨w.heap.size,1,none⟩=some (.slice p1 r1 k1)∧W.cell? ⟨w.heap.size,2,none⟩=some (.map (some V.m1))∧W.cell? ⟨w.heap.size,3,none⟩=some (.slice p2 r2 k2)∧W.cell? ⟨w.heap.size,4,none⟩=some (.map (some V.m2))∧W.cell? ⟨w.heap.size,5,none⟩=some (.slice p3 r3 k3)∧W.cell? ⟨w.heap.size,6,none⟩=some (.map (some V.m3))∧W.cell? ⟨w.heap.size,7,none⟩=some (.slice p4 r4 k4)∧W.cell? ⟨w.heap.size,8,none⟩=some (.map (some V.m4)))∧W.cell? ⟨w.heap.size+1,0,none⟩=some (.string f.name)∧W.cell? ⟨w.heap.size+2,0,none⟩=some (.string nm)∧W.cell? ⟨w.heap.size+2,1,none⟩=some (.string f.name)):=aA0 fun W hW=>⟨HCS.out W hW,(HCF.out W hW).1,HCK.out W hW⟩;have hlk0:=hlk _ bX;simp only[fk] at hlk0;clear n0 n1 n2 zX bX hG hlk;go_enter Tryz.func117,Tryz.ntmps117
 go_upto_region 2 with fail
 rw[<-hX0];clear hX0;obtain⟨d0,d1,d2,d3,d4,d5,d6,d7,d8⟩:=HCS.out X0 (Below.refl _ _);obtain⟨e0,e1⟩:=HCK.out X0 (Below.refl _ _);by_cases ho0:o=0
 ·subst ho0;obtain⟨T6,v6,g6⟩:=HGE.out X0 (Below.refl _ _) 6 (by omega)
  have HB1:Hid (bad=true):=aA0 (by rw[HBD.out];simp)
  have HBE:=aA0 (HBW.out X0 (Below.refl _ _));clear d0 d1 d2 d3 d4 d5 d6 d7;go_wp2_with fail
  go_ret
  exact⟨aD1.bad (by rw[HB1.out];rfl),HBE.out⟩
 have hoi:¬(o:Int)=0:=by omega
 by_cases ho1:1<o
 rotate_left
 ·-- nobody beside
  have ho1i:¬(1:Int)<(o:Int):=by omega
  have HB1:Hid (bad=on):=aA0 (by rw[HBD.out,decide_eq_false ho0,decide_eq_false ho1];simp)
  go_upto_region 5 with fail
  clear hlk0 d0 d1 d2 d3 d4 d5 d6 d7 d8 e0 e1;have bD:Below X0.heap.size X0 X0.drew:=(Below.refl _ _).drew;refine wp_region_held_drew (S:=(fun w'=>(w'.cell? ⟨w.heap.size,0,none⟩=some (.slice pa pl pc)∧w'.cell? ⟨w.heap.size,1,none⟩=some (.slice p1 r1 k1)∧w'.cell? ⟨w.heap.size,2,none⟩=some (.map (some V.m1))∧w'.cell? ⟨w.heap.size,3,none⟩=some (.slice p2 r2 k2)∧w'.cell? ⟨w.heap.size,4,none⟩=some (.map (some V.m2))∧w'.cell? ⟨w.heap.size,5,none⟩=some (.slice p3 r3 k3)∧w'.cell? ⟨w.heap.size,6,none⟩=some (.map (some V.m3))∧w'.cell? ⟨w.heap.size,7,none⟩=some (.slice p4 r4 k4)∧w'.cell? ⟨w.heap.size,8,none⟩=some (.map (some V.m4)))∧w'.cell? ⟨w.heap.size+1,0,none⟩=some (.string f.name)∧w'.cell? ⟨w.heap.size+2,0,none⟩=some (.string nm)∧w'.cell? ⟨w.heap.size+2,1,none⟩=some (.string f.name))) (by kernel_rfl) (HSS.out _ bD) (fun hHeld=>?_)
  refine tkH 0 hHeld ?_;refine tkH 1 hHeld ?_;refine tkH 2 hHeld ?_;refine tnH 3 hHeld ?_;refine tnH 4 hHeld ?_;refine tnH 5 hHeld ?_;refine tnH 6 hHeld ?_;refine tnH 7 hHeld ?_;refine tnH 8 hHeld ?_;refine tkH 9 hHeld ?_;refine tkH 10 hHeld ?_;refine tnH 11 hHeld ?_;refine tnH 12 hHeld ?_;refine tnH 13 hHeld ?_;refine tnH 14 hHeld ?_;refine tnH 15 hHeld ?_;refine tkH 16 hHeld ?_;refine tkH 17 hHeld ?_;refine wpAnyH_done (by kernel_rfl) ?_ _
  have HBZ:=aA0 bD;clear bD;generalize X0.drew=wz at*;obtain⟨d0,d1,d2,d3,d4,d5,d6,d7,d8⟩:=HCS.out wz HBZ.out;obtain⟨e0,e1⟩:=HCK.out wz HBZ.out;obtain⟨f0,f1,f2,f3,f4,f5,f6,f7⟩:=HCF.out wz HBZ.out;go_wp2_with fail
  refine(HON.out _ (HBW.out _ HBZ.out)).mono ?_;rintro e wo ⟨rfl,bo⟩;have HBO:=aA0 (HBZ.out.trans (bo.mono HBZ.out.size));clear bo d0 d1 d2 d3 d4 d5 d6 d7 d8 e0 e1 f0 f1 f2 f3 f4 f5 f6 f7;cases on
  ·have HBE:=aA0 (HBW.out wo HBO.out);go_wp2_with fail
   go_ret
   exact⟨aD1.good (by rw[HB1.out];rfl),HBE.out⟩
  ·obtain⟨T7,v7,g7⟩:=HGE.out wo HBO.out 7 (by omega)
   have HBE:=aA0 (HBW.out wo HBO.out);go_wp2_with fail
   go_ret
   exact⟨aD1.bad (by rw[HB1.out];rfl),HBE.out⟩
 have ho1i:(1:Int)<(o:Int):=by omega
 cases hbe:(f.name.toList==ky.toList)
 rotate_left
 ·have HB2:Hid (bad=(hn||on)):=aA0 (by rw[HBD.out,decide_eq_false ho0,decide_eq_true ho1,hbe];simp)
  go_upto_region 5 with fail
  clear hlk0 d0 d1 d2 d3 d4 d5 d6 d7 d8 e0 e1;have bD:Below X0.heap.size X0 X0.drew:=(Below.refl _ _).drew;refine wp_region_held_drew (S:=(fun w'=>(w'.cell? ⟨w.heap.size,0,none⟩=some (.slice pa pl pc)∧w'.cell? ⟨w.heap.size,1,none⟩=some (.slice p1 r1 k1)∧w'.cell? ⟨w.heap.size,2,none⟩=some (.map (some V.m1))∧w'.cell? ⟨w.heap.size,3,none⟩=some (.slice p2 r2 k2)∧w'.cell? ⟨w.heap.size,4,none⟩=some (.map (some V.m2))∧w'.cell? ⟨w.heap.size,5,none⟩=some (.slice p3 r3 k3)∧w'.cell? ⟨w.heap.size,6,none⟩=some (.map (some V.m3))∧w'.cell? ⟨w.heap.size,7,none⟩=some (.slice p4 r4 k4)∧w'.cell? ⟨w.heap.size,8,none⟩=some (.map (some V.m4)))∧w'.cell? ⟨w.heap.size+1,0,none⟩=some (.string f.name)∧w'.cell? ⟨w.heap.size+2,0,none⟩=some (.string nm)∧w'.cell? ⟨w.heap.size+2,1,none⟩=some (.string f.name))) (by kernel_rfl) (HSS.out _ bD) (fun hHeld=>?_)
  refine tkH 0 hHeld ?_;refine tkH 1 hHeld ?_;refine tkH 2 hHeld ?_;refine tkH 3 hHeld ?_;refine tkH 4 hHeld ?_;refine tkH 5 hHeld ?_;refine tkH 6 hHeld ?_;refine rdyH [7] (rcH (fun K hK=>?_) AllReadyH.nil);go_simp
  refine(HKO.out _ (HBW.out _ bD)).mono ?_;rintro e wk ⟨rfl,bk⟩;have bD:=bD.trans (bk.mono bD.size);refine hK.out _ _ (HSS.out _ bD) (fun hHeld=>?_);clear hK K;try simp only[Act.put,sIA,sI0,sIS]
  refine tkH 8 hHeld ?_;refine tkH 9 hHeld ?_;refine tkH 10 hHeld ?_;refine tnH 11 hHeld ?_;refine tnH 12 hHeld ?_;refine tnH 13 hHeld ?_;refine tnH 14 hHeld ?_;refine tnH 15 hHeld ?_;refine tkH 16 hHeld ?_;refine tkH 17 hHeld ?_;refine wpAnyH_done (by kernel_rfl) ?_ _
  have HBZ:=aA0 bD;obtain⟨d0,d1,d2,d3,d4,d5,d6,d7,d8⟩:=HCS.out wk HBZ.out;obtain⟨e0,e1⟩:=HCK.out wk HBZ.out;obtain⟨f0,f1,f2,f3,f4,f5,f6,f7⟩:=HCF.out wk HBZ.out;clear bD;go_wp2_with fail
  refine(HHN.out _ (HBW.out _ HBZ.out)).mono ?_;rintro e wh ⟨rfl,bh⟩;have HBH:=aA0 (HBZ.out.trans (bh.mono HBZ.out.size));clear bh d0 d1 d2 d3 d4 d5 d6 d7 d8 e0 e1 f0 f1 f2 f3 f4 f5 f6 f7 HBZ;have HBZ:=HBH;cases hn
  ·have HB1:Hid (bad=on):=aA0 (by rw[HB2.out];rfl)
   obtain⟨d0,d1,d2,d3,d4,d5,d6,d7,d8⟩:=HCS.out wh HBZ.out;obtain⟨e0,e1⟩:=HCK.out wh HBZ.out;obtain⟨f0,f1,f2,f3,f4,f5,f6,f7⟩:=HCF.out wh HBZ.out;go_wp2_with fail
   refine(HON.out _ (HBW.out _ HBZ.out)).mono ?_;rintro e wo ⟨rfl,bo⟩;have HBO:=aA0 (HBZ.out.trans (bo.mono HBZ.out.size));clear bo d0 d1 d2 d3 d4 d5 d6 d7 d8 e0 e1 f0 f1 f2 f3 f4 f5 f6 f7;cases on
   ·have HBE:=aA0 (HBW.out wo HBO.out);go_wp2_with fail
    go_ret
    exact⟨aD1.good (by rw[HB1.out];rfl),HBE.out⟩
   ·obtain⟨T7,v7,g7⟩:=HGE.out wo HBO.out 7 (by omega)
    have HBE:=aA0 (HBW.out wo HBO.out);go_wp2_with fail
    go_ret
    exact⟨aD1.bad (by rw[HB1.out];rfl),HBE.out⟩
  ·have HB1:Hid (bad=true):=aA0 (by rw[HB2.out];rfl)
   obtain⟨T7,v7,g7⟩:=HGE.out wh HBZ.out 7 (by omega)
   have HBE:=aA0 (HBW.out wh HBZ.out);go_wp2_with fail
   go_ret
   exact⟨aD1.bad (by rw[HB1.out];rfl),HBE.out⟩
 by_cases hso:sh=o
 ·subst hso;have HB2:Hid (bad=(hn||on)):=aA0 (by rw[HBD.out,decide_eq_false ho0,decide_eq_true ho1,hbe];simp)
  go_upto_region 5 with fail
  clear hlk0 d0 d1 d2 d3 d4 d5 d6 d7 d8 e0 e1;have bD:Below X0.heap.size X0 X0.drew:=(Below.refl _ _).drew;refine wp_region_held_drew (S:=(fun w'=>(w'.cell? ⟨w.heap.size,0,none⟩=some (.slice pa pl pc)∧w'.cell? ⟨w.heap.size,1,none⟩=some (.slice p1 r1 k1)∧w'.cell? ⟨w.heap.size,2,none⟩=some (.map (some V.m1))∧w'.cell? ⟨w.heap.size,3,none⟩=some (.slice p2 r2 k2)∧w'.cell? ⟨w.heap.size,4,none⟩=some (.map (some V.m2))∧w'.cell? ⟨w.heap.size,5,none⟩=some (.slice p3 r3 k3)∧w'.cell? ⟨w.heap.size,6,none⟩=some (.map (some V.m3))∧w'.cell? ⟨w.heap.size,7,none⟩=some (.slice p4 r4 k4)∧w'.cell? ⟨w.heap.size,8,none⟩=some (.map (some V.m4)))∧w'.cell? ⟨w.heap.size+1,0,none⟩=some (.string f.name)∧w'.cell? ⟨w.heap.size+2,0,none⟩=some (.string nm)∧w'.cell? ⟨w.heap.size+2,1,none⟩=some (.string f.name))) (by kernel_rfl) (HSS.out _ bD) (fun hHeld=>?_)
  generalize X0.drew=wD at*;refine tkH 0 hHeld ?_;refine tkH 1 hHeld ?_;refine tkH 2 hHeld ?_;refine tkH 3 hHeld ?_;refine tkH 4 hHeld ?_;refine tkH 5 hHeld ?_;refine tkH 6 hHeld ?_;refine rdyH [7] ?_;refine rcH (fun K hK=>?_) AllReadyH.nil;go_simp
  refine(HKO.out _ (HBW.out _ bD)).mono ?_;rintro e wk ⟨rfl,bk⟩;have bD:=bD.trans (bk.mono bD.size);clear bk;refine hK.out _ _ (HSS.out _ bD) (fun hHeld=>?_);clear hK K;try simp only[Act.put,sIA,sI0,sIS]
  refine tkH 8 hHeld ?_;refine tkH 9 hHeld ?_;refine tkH 10 hHeld ?_;refine tkH 11 hHeld ?_;refine tkH 12 hHeld ?_;refine tkH 14 hHeld ?_;refine rdyH [13] ?_;refine rcH (fun K hK=>?_) AllReadyH.nil;go_simp
  refine(HSH.out _ (HBW.out _ bD)).mono ?_;rintro e ws ⟨rfl,bs⟩;have bD:=bD.trans (bs.mono bD.size);clear bs;refine hK.out _ _ (HSS.out _ bD) (fun hHeld=>?_);clear hK K;try simp only[Act.put,sIA,sI0,sIS]
  refine tkH 15 hHeld ?_;refine tkH 16 hHeld ?_;refine tkH 17 hHeld ?_;refine wpAnyH_done (by kernel_rfl) ?_ _
  have HBZ:=aA0 bD;obtain⟨d0,d1,d2,d3,d4,d5,d6,d7,d8⟩:=HCS.out ws HBZ.out;obtain⟨e0,e1⟩:=HCK.out ws HBZ.out;obtain⟨f0,f1,f2,f3,f4,f5,f6,f7⟩:=HCF.out ws HBZ.out;clear bD;go_wp2_with fail
  refine(HHN.out _ (HBW.out _ HBZ.out)).mono ?_;rintro e wh ⟨rfl,bh⟩;have HBH:=aA0 (HBZ.out.trans (bh.mono HBZ.out.size));clear bh d0 d1 d2 d3 d4 d5 d6 d7 d8 e0 e1 f0 f1 f2 f3 f4 f5 f6 f7 HBZ;have HBZ:=HBH;cases hn
  ·have HB1:Hid (bad=on):=aA0 (by rw[HB2.out];rfl)
   obtain⟨d0,d1,d2,d3,d4,d5,d6,d7,d8⟩:=HCS.out wh HBZ.out;obtain⟨e0,e1⟩:=HCK.out wh HBZ.out;obtain⟨f0,f1,f2,f3,f4,f5,f6,f7⟩:=HCF.out wh HBZ.out;go_wp2_with fail
   refine(HON.out _ (HBW.out _ HBZ.out)).mono ?_;rintro e wo ⟨rfl,bo⟩;have HBO:=aA0 (HBZ.out.trans (bo.mono HBZ.out.size));clear bo d0 d1 d2 d3 d4 d5 d6 d7 d8 e0 e1 f0 f1 f2 f3 f4 f5 f6 f7;cases on
   ·have HBE:=aA0 (HBW.out wo HBO.out);go_wp2_with fail
    go_ret
    exact⟨aD1.good (by rw[HB1.out];rfl),HBE.out⟩
   ·obtain⟨T7,v7,g7⟩:=HGE.out wo HBO.out 7 (by omega)
    have HBE:=aA0 (HBW.out wo HBO.out);go_wp2_with fail
    go_ret
    exact⟨aD1.bad (by rw[HB1.out];rfl),HBE.out⟩
  ·have HB1:Hid (bad=true):=aA0 (by rw[HB2.out];rfl)
   obtain⟨T7,v7,g7⟩:=HGE.out wh HBZ.out 7 (by omega)
   have HBE:=aA0 (HBW.out wh HBZ.out);go_wp2_with fail
   go_ret
   exact⟨aD1.bad (by rw[HB1.out];rfl),HBE.out⟩
 ·have hsi:¬(sh:Int)=(o:Int):=by omega
  have HB1:Hid (bad=true):=aA0 (by rw[HBD.out,decide_eq_false ho0,decide_eq_true ho1,hbe,decide_eq_false hso];simp)
  go_upto_region 5 with fail
  clear hlk0 d0 d1 d2 d3 d4 d5 d6 d7 d8 e0 e1;have bD:Below X0.heap.size X0 X0.drew:=(Below.refl _ _).drew;refine wp_region_held_drew (S:=(fun w'=>(w'.cell? ⟨w.heap.size,0,none⟩=some (.slice pa pl pc)∧w'.cell? ⟨w.heap.size,1,none⟩=some (.slice p1 r1 k1)∧w'.cell? ⟨w.heap.size,2,none⟩=some (.map (some V.m1))∧w'.cell? ⟨w.heap.size,3,none⟩=some (.slice p2 r2 k2)∧w'.cell? ⟨w.heap.size,4,none⟩=some (.map (some V.m2))∧w'.cell? ⟨w.heap.size,5,none⟩=some (.slice p3 r3 k3)∧w'.cell? ⟨w.heap.size,6,none⟩=some (.map (some V.m3))∧w'.cell? ⟨w.heap.size,7,none⟩=some (.slice p4 r4 k4)∧w'.cell? ⟨w.heap.size,8,none⟩=some (.map (some V.m4)))∧w'.cell? ⟨w.heap.size+1,0,none⟩=some (.string f.name)∧w'.cell? ⟨w.heap.size+2,0,none⟩=some (.string nm)∧w'.cell? ⟨w.heap.size+2,1,none⟩=some (.string f.name))) (by kernel_rfl) (HSS.out _ bD) (fun hHeld=>?_)
  generalize X0.drew=wD at*;refine tkH 0 hHeld ?_;refine tkH 1 hHeld ?_;refine tkH 2 hHeld ?_;refine tkH 3 hHeld ?_;refine tkH 4 hHeld ?_;refine tkH 5 hHeld ?_;refine tkH 6 hHeld ?_;refine rdyH [7] ?_;refine rcH (fun K hK=>?_) AllReadyH.nil;go_simp
  refine(HKO.out _ (HBW.out _ bD)).mono ?_;rintro e wk ⟨rfl,bk⟩;have bD:=bD.trans (bk.mono bD.size);clear bk;refine hK.out _ _ (HSS.out _ bD) (fun hHeld=>?_);clear hK K;try simp only[Act.put,sIA,sI0,sIS]
  refine tkH 8 hHeld ?_;refine tkH 9 hHeld ?_;refine tkH 10 hHeld ?_;refine tkH 11 hHeld ?_;refine tkH 12 hHeld ?_;refine tkH 14 hHeld ?_;refine rdyH [13] ?_;refine rcH (fun K hK=>?_) AllReadyH.nil;go_simp
  refine(HSH.out _ (HBW.out _ bD)).mono ?_;rintro e ws ⟨rfl,bs⟩;have bD:=bD.trans (bs.mono bD.size);clear bs;refine hK.out _ _ (HSS.out _ bD) (fun hHeld=>?_);clear hK K;try simp only[Act.put,sIA,sI0,sIS]
  refine tkH 15 hHeld ?_;refine tkH 16 hHeld ?_;refine tkH 17 hHeld ?_;refine wpAnyH_done (by kernel_rfl) ?_ _
  have HBZ:=aA0 bD;clear bD;obtain⟨T5,v5,g5⟩:=HGE.out ws HBZ.out 5 (by omega)
  have HBE:=aA0 (HBW.out ws HBZ.out);go_wp2_with fail
  go_ret
  exact⟨aD1.bad (by rw[HB1.out];rfl),HBE.out⟩
end
end Go.Proofs.YtcebpkeiaiiphaaGreatDoor
