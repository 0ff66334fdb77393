import Derived.Test.YtcebpkeiaiiphaaGreatDoorRC34
set_option linter.unusedSimpArgs false
set_option linter.unusedVariables false
namespace Go.Proofs.YtcebpkeiaiiphaaGreatDoor
open Go.RowKit Go.Maps
def aJZ(ps:List Pt)(s:Nat)(nm n:ByteArray):Int:=if aCT ps s nm n=true then(aEO ps s nm n:Int) else -1
theorem aI2(ps:List Pt)(nm n:ByteArray):aC2 ps nm n=-1∨∃k:Nat,aC2 ps nm n=k∧k<ps.length:=by
 rcases aA8 (aDL ps nm n) ps.length with⟨e,-⟩| ⟨k,e,h,-⟩
 ·exact .inl e
 ·exact .inr ⟨k,e,h⟩
set_option maxRecDepth 20000 in
set_option maxHeartbeats 3200000 in
theorem aPH(ps:List Pt)(w:World)(B:Nat)(a:Option Addr)(c:Nat)(s:Nat)(hs:s<ps.length)(nm n:ByteArray)(hnl:∀m k,(sayF (pth ps m) nm k).needs.length<=1000000000)(hR:aAP w (·<B) ps a)(hB:B<=w.heap.size):
  Calls Tryz.prog 75 #[.slice a ps.length c,.int .i64 s,.string nm,.string n] w fun e w'=>e=.returned (.int .i64 (aJZ ps s nm n))∧Below w.heap.size w w':=by
 have h40:=hR.1;have HPS:=aA0 (fun(k:Nat) (hk:k<ps.length)=>hR.at k hk);obtain⟨pb,po,pta,ptc,rfl,hpB,q0,q1,hP⟩:=hR.at s hs;have hsi:(s:Int)<(ps.length:Int):=by omega
 have HLC:=aA0 (fun W (hW:Below w.heap.size w W) n=>aNN (pth ps s) nm n W B _ (hP.under (hW.mono hB)) (by have:=hW.size;omega))
 have HKY:=aA0 (fun W (hW:Below w.heap.size w W)=>aIR (pth ps s) nm W B _ (hP.under (hW.mono hB)) (by have:=hW.size;omega))
 have HFI:=aA0 (fun W (hW:Below w.heap.size w W) n=>aNF ps nm n W B _ c (hR.under (hW.mono hB)) (by have:=hW.size;omega))
 have HQC:Hid (∀W,Below w.heap.size w W->W.cell? ⟨pb,po+s*2,none⟩=some (.string (pth ps s).name)∧W.cell? ⟨pb,po+s*2+1,none⟩=some (.slice pta (pth ps s).types.length ptc)):=aA0 fun W hW=>⟨(hW.cell (aAA q0)).trans q0,(hW.cell (aAA q1)).trans q1⟩;have HNB:Hid (aCT ps s nm n=((!qB nm&&aCE (pth ps s) nm n)||(decide (0<=aC2 ps nm n)&&(qB nm||(aCV (pth ps s) nm&&aDU ps s nm (aCS ps nm n).needs (aCS ps nm n).needs.length))))):=aA0 rfl;have HNV1:Hid ((!qB nm&&aCE (pth ps s) nm n)=true->aJZ ps s nm n=s):=aA0 fun h=>by
  have e1:aCT ps s nm n=true:=by rw[HNB.out,h];rfl
  unfold aJZ aEO;rw[if_pos e1,if_pos h]
 have HNV2:Hid ((!qB nm&&aCE (pth ps s) nm n)=false->aCT ps s nm n=true->aJZ ps s nm n=aC2 ps nm n):=aA0 fun h h2=>by
  have h3:=h2;rw[HNB.out,h,Bool.false_or,Bool.and_eq_true] at h3;have h4:0<=aC2 ps nm n:=of_decide_eq_true h3.1;unfold aJZ aEO;rw[if_pos h2,if_neg (by rw[h];simp)]
  omega
 have HNV0:Hid (aCT ps s nm n=false->aJZ ps s nm n=-1):=aA0 fun h=>by
  unfold aJZ;rw[if_neg (by rw[h];simp)]
 have HQ:Hid (qB nm=(nm.toList==[113,117,101,114,121])):=aA0 rfl;have HBW:=aA0 hB;have HHC:=aI2 ps nm n;have HGT:Hid (∀k:Nat,aC2 ps nm n=k->aCS ps nm n=sayF (pth ps k) nm n):=aA0 fun k e=>by
  unfold aCS;rw[e,if_pos (by omega)];rfl
 have HNK:Hid (∀nd,aG1 ps s nm nd=(aCE (pth ps s) nm nd||decide (0<=aC2 ps nm nd))):=aA0 fun nd=>rfl;have HL1:=aA0 (fun W (hW:Below w.heap.size w W)=>HLC.out W hW n);have HF1:=aA0 (fun W (hW:Below w.heap.size w W)=>HFI.out W hW n);have HPP:=aA0 hP;have HNL:=aA0 hnl;rw[HQ.out] at HNB HNV1 HNV2;generalize aJZ ps s nm n=nv at*;generalize aCT ps s nm n=nb' at*;generalize aCE (pth ps s) nm n=lc at*;generalize aCV (pth ps s) nm=kd at*;clear hR hB hs hP q0 q1 hpB HQ hnl;generalize (pth ps s).types.length=ptl at*;generalize (pth ps s).name=pnm at*;go_enter Tryz.func75,Tryz.ntmps75
 go_upto_region 1 with fail
 go_cut [23] (fun r wx=>r=.bool (!(nm.toList==[113,117,101,114,121])&&lc)∧Below w.heap.size w wx)
 case first=>
  obtain⟨y0,y1⟩:=HQC.out w (Below.refl _ _);have HA2:=aA0 (HL1.out w (Below.refl _ _));cases hq:(nm.toList==[113,117,101,114,121]);all_goals
   go_wp2_with (go_at_call 105;refine HA2.out.mono ?_;rintro e w3 ⟨rfl,hb3⟩)
   go_meet
   case rel=>exact⟨by first| rfl| (rw[hq]<;>rfl),by first| exact hb3| exact Below.refl _ _⟩
 case rest=>
  obtain⟨rfl,bx⟩:=hcut;obtain⟨wx,rfl⟩:∃x,x=wc:=⟨wc,rfl⟩;obtain⟨fst,hfs⟩:∃b,b=(!(nm.toList==[113,117,101,114,121])&&lc):=⟨_,rfl⟩;rw[<-hfs] at HNB HNV1 HNV2 ⊢;clear hfs;cases fst
  rotate_left
  ·go_wp2_with fail
   go_ret
   exact⟨by rw[HNV1.out (by trivial)]<;>rfl,bx⟩
  have HF2:=aA0 (HF1.out wx bx);go_upto_region 4 with(go_at_call 106;refine HF2.out.mono ?_;rintro e w2 ⟨rfl,hb2⟩)
  have bw2:=bx.trans (hb2.mono bx.size);clear HF2 HF1 HL1 hb2 bx;rcases HHC with hix| ⟨k,hix,hk⟩
  ·have e:nb'=false:=by rw[HNB.out,hix];simp
   have HE:=aA0 (HNV0.out e);rw[hix];clear hix e HNB;cases hq:(nm.toList==[113,117,101,114,121]);all_goals
    go_wp2_with fail
    go_ret
    exact⟨by rw[HE.out]<;>rfl,bw2⟩
  have hki:(k:Int)<(ps.length:Int):=by omega
  have hkn:¬(k:Int)<0:=by omega
  rw[hix] at HNB HNV2 ⊢;replace HNB:Hid (nb'=((nm.toList==[113,117,101,114,121])||(kd&&aDU ps s nm (aCS ps nm n).needs (aCS ps nm n).needs.length))):=aA0 (by rw[HNB.out,decide_eq_true (by omega)];simp)
  cases hq:(nm.toList==[113,117,101,114,121])
  rotate_left
  ·have e:nb'=true:=by rw[HNB.out,hq];rfl
   have HE:=aA0 (HNV2.out (by trivial) e)
   clear e HNB;go_wp2_with fail
   go_ret
   exact⟨by rw[HE.out]<;>rfl,bw2⟩
  rw[hq,Bool.false_or] at HNB;obtain⟨pb2,po2,ta2,tc2,e,hpB2,z0,z1,hP2⟩:=HPS.out k hk;simp only[Option.some.injEq,Addr.mk.injEq,and_true] at e;obtain⟨rfl,rfl⟩:=e;have z0:=(bw2.cell (aAA z0)).trans z0;have z1:=(bw2.cell (aAA z1)).trans z1;have HG:=aA0 (aDH (pth ps k) nm n w2 B _ (hP2.under (bw2.mono HBW.out)) (by have:=HBW.out;have:=bw2.size;omega))
  have hgl:=HNL.out k n;rw[<-HGT.out k hix] at HG hgl;generalize aCS ps nm n=g at*;obtain⟨gn,gof,gl,gm,gfr,gh,gs,gd⟩:=g;simp only[fval] at HG HNB hgl;clear hP2 HGT;generalize (pth ps k).types.length=ktl at*;generalize (pth ps k).name=knm at*;go_upto_region 7 with(go_at_call 38;refine HG.out.mono ?_;rintro e w3 ⟨na,nc,rfl,hb3,hfr⟩)
  have bF:=aA2 w3 (.cells #[.string gn,.string gof,.bool gl,.bool gm,.bool gfr,.bool gh,.bool gs,.slice na gd.length nc] 80);have nF:=aA3 (w:=w3) (N:=w3.heap.size) #[.string gn,.string gof,.bool gl,.bool gm,.bool gfr,.bool gh,.bool gs,.slice na gd.length nc] 80 rfl;have zF:(w3.alloc (.cells #[.string gn,.string gof,.bool gl,.bool gm,.bool gfr,.bool gh,.bool gs,.slice na gd.length nc] 80)).heap.size=w3.heap.size+1:=by simp
  have b3:=bw2.trans (hb3.mono bw2.size);have b4:=b3.trans (bF.mono b3.size);have HSS:Hid (Strs _ (·<B) gd na):=aA0 (by
   obtain⟨na',nc',e,hS,-⟩:=hfr.under (bF.mono (by have:=HBW.out;have:=b3.size;omega))
   simp only[Value.agg.injEq,Array.mk.injEq,List.cons.injEq,Value.slice.injEq,and_true,true_and] at e;obtain⟨rfl,-⟩:=e;exact hS)
  clear z0 z1 hfr HG hix;generalize w3.alloc (.cells #[.string gn,.string gof,.bool gl,.bool gm,.bool gfr,.bool gh,.bool gs,.slice na gd.length nc] 80)=Z at*;have HZ:Hid (∀W,Below Z.heap.size Z W->(W.cell? ⟨pb,po+s*2,none⟩=some (.string pnm)∧W.cell? ⟨pb,po+s*2+1,none⟩=some (.slice pta ptl ptc))∧W.cell? ⟨w3.heap.size,7,none⟩=some (.slice na gd.length nc)∧Below w.heap.size w W∧Strs W (·<B) gd na):=aA0 fun W hW=>by
   have h:=(hW.block w3.heap.size (by omega)).trans nF
   have hw:=b4.trans (hW.mono b4.size);exact⟨HQC.out W hw,(aA1 h 7 (by simp)).1,hw,HSS.out.mono fun b hb=>hW.block b (by have hb:b<B:=hb;have:=HBW.out;have:=b4.size;omega)⟩
  clear bF nF zF b3 b4 hb3 HSS;obtain⟨⟨y0,y1⟩,f7,bwZ,-⟩:=HZ.out Z (Below.refl _ _);have HK2:=aA0 (HKY.out Z bwZ);cases kd
  ·have HE:=aA0 (HNV0.out HNB.out);clear HNB;go_wp2_with (go_at_call 107;refine HK2.out.mono ?_;rintro e w4 ⟨rfl,hb4⟩)
   go_ret
   exact⟨by rw[HE.out]<;>rfl,bwZ.trans (hb4.mono bwZ.size)⟩
  rw[Bool.true_and] at HNB;go_wp2_with (go_at_call 107;refine HK2.out.mono ?_;rintro e w4 ⟨rfl,hb4⟩)
  clear y0 y1 f7 HK2;have HGL:=aA0 hgl;clear hgl;go_loopw [12] (fun i' wr=>∃j:Nat,j<=gd.length∧i'=.int .i64 j∧Hid (aDU ps s nm gd j=true)∧Below Z.heap.size Z wr) (fun i' _=>gd.length- (intOf i').toNat)
  case atStart=>exact⟨0,Nat.zero_le _,rfl,aA0 rfl,hb4⟩
  case round=>
   obtain⟨j,hj,rfl,HN,hb⟩:=hrel;obtain⟨w0,rfl⟩:∃x,x=wr:=⟨wr,rfl⟩;have hln:=HGL.out;obtain⟨⟨y0,y1⟩,f7,bw0,hSt⟩:=HZ.out w0 hb;by_cases hlt:j<gd.length
   case neg=>
    have e:j=gd.length:=by omega
    have e2:nb'=true:=by rw[HNB.out,<-e];exact HN.out
    have HE:=aA0 (HNV2.out (by trivial) e2)
    have hji:¬(j:Int)<(gd.length:Int):=by omega
    clear hSt HNB e e2;go_wp2_with fail
    go_ret
    exact⟨by rw[HE.out]<;>rfl,bw0⟩
   have hji:(j:Int)<(gd.length:Int):=by omega
   obtain⟨nb,noff,rfl,hnb,hcc⟩:=hSt.1 (by intro e;simp[e] at hlt)
   have hcn:=hcc j hlt;have HSU:Hid (aDU ps s nm gd (j+1)=aG1 ps s nm (nth gd j)):=aA0 (by
    show(aA7 _ j&&aG1 ps s nm (nth gd j))=_;have:aA7 (fun i=>aG1 ps s nm (nth gd i)) j=true:=HN.out;rw[this,Bool.true_and])
   have HFB:Hid (aDU ps s nm gd (j+1)=false->nv=-1):=aA0 fun h=>by
    refine HNV0.out ?_;rw[HNB.out];show aA7 _ _=false;refine aAJ hlt ?_;rw[<-HSU.out];exact h
   rw[HNK.out] at HSU;have HL2:=aA0 (fun W (hW:Below w.heap.size w W)=>HLC.out W hW (nth gd j));have HF2:=aA0 (fun W (hW:Below w.heap.size w W)=>HFI.out W hW (nth gd j));have HH2:=aI2 ps nm (nth gd j);clear hSt hcc HNB;generalize nth gd j=nd at*;generalize aCE (pth ps s) nm nd=ln at*;generalize aC2 ps nm nd=hx at*;obtain⟨gl',hgl'⟩:∃x,x=gd.length:=⟨_,rfl⟩;rw[<-hgl'] at f7 hji hlt hj hln;have HWB:Hid (∀W,Below w0.heap.size w0 W->Below w.heap.size w W∧Below Z.heap.size Z W):=aA0 fun W hW=>⟨bw0.trans (hW.mono bw0.size),hb.trans (hW.mono hb.size)⟩;have HS:Hid (∀W,Below w0.heap.size w0 W->W.cell? ⟨pb,po+s*2,none⟩=some (.string pnm)∧W.cell? ⟨pb,po+s*2+1,none⟩=some (.slice pta ptl ptc)∧W.cell? ⟨w3.heap.size,7,none⟩=some (.slice (some ⟨nb,noff,none⟩) gl' nc)∧W.cell? ⟨nb,noff+j,none⟩=some (.string nd)):=aA0 fun W hW=>⟨(hW.cell (aAA y0)).trans y0,(hW.cell (aAA y1)).trans y1,(hW.cell (aAA f7)).trans f7,(hW.cell (aAA hcn)).trans hcn⟩;have HMS:Hid (gl'- (intOf (.int .i64 ((j:Int)+1))).toNat<gl'- (intOf (.int .i64 (j:Int))).toNat):=aA0 (by simp[intOf];omega)
   go_upto_region 12 with fail
   clear y0 y1 f7 hcn;have bD:Below w0.heap.size w0 w0.drew:=(Below.refl _ _).drew;have bwD:=(HWB.out _ bD).1;cases ln
   ·rcases HH2 with hx1| ⟨m,hx1,-⟩
    ·subst hx1;refine wp_region_held_drew (S:=(fun W=>W.cell? ⟨pb,po+s*2,none⟩=some (.string pnm)∧W.cell? ⟨pb,po+s*2+1,none⟩=some (.slice pta ptl ptc)∧W.cell? ⟨w3.heap.size,7,none⟩=some (.slice (some ⟨nb,noff,none⟩) gl' nc)∧W.cell? ⟨nb,noff+j,none⟩=some (.string nd))) (by kernel_rfl) (HS.out _ bD) (fun hHeld=>?_)
     refine tkH 0 hHeld ?_;refine tkH 1 hHeld ?_;refine tkH 2 hHeld ?_;refine tkH 3 hHeld ?_;refine tkH 4 hHeld ?_;refine tkH 5 hHeld ?_;refine tkH 6 hHeld ?_;refine tkH 7 hHeld ?_;refine tkH 8 hHeld ?_;refine tkH 9 hHeld ?_;refine rdyH [10] (rcH (fun K hK=>?_) AllReadyH.nil);go_simp
     refine(HL2.out _ bwD).mono ?_;rintro e wl ⟨rfl,hbl⟩;have bL:=bD.trans (hbl.mono bD.size);refine hK.out _ _ (HS.out wl bL) (fun hHeld=>?_);clear hK K;try simp only[Act.put,sIA,sI0,sIS]
     refine tkH 11 hHeld ?_;refine tkH 12 hHeld ?_;refine tkH 13 hHeld ?_;refine tkH 14 hHeld ?_;refine tkH 15 hHeld ?_;refine tkH 16 hHeld ?_;refine tkH 17 hHeld ?_;refine tkH 18 hHeld ?_;refine tkH 19 hHeld ?_;refine rdyH [20] (rcH (fun K hK=>?_) AllReadyH.nil);go_simp
     refine(HF2.out _ (HWB.out wl bL).1).mono ?_;rintro e wf ⟨rfl,hbf⟩;have bF2:=bL.trans (hbf.mono bL.size);refine hK.out _ _ (HS.out wf bF2) (fun hHeld=>?_);clear hK K;try simp only[Act.put,sIA,sI0,sIS]
     refine tkH 21 hHeld ?_;refine tkH 22 hHeld ?_;refine wpAnyH_done (by kernel_rfl) ?_ _
     go_wp2_with fail
     go_ret
     exact⟨by rw[HFB.out (by rw[HSU.out]<;>rfl)]<;>rfl,(HWB.out wf bF2).1⟩
    ·subst hx1;have hmn:¬(m:Int)<0:=by omega
     refine wp_region_held_drew (S:=(fun W=>W.cell? ⟨pb,po+s*2,none⟩=some (.string pnm)∧W.cell? ⟨pb,po+s*2+1,none⟩=some (.slice pta ptl ptc)∧W.cell? ⟨w3.heap.size,7,none⟩=some (.slice (some ⟨nb,noff,none⟩) gl' nc)∧W.cell? ⟨nb,noff+j,none⟩=some (.string nd))) (by kernel_rfl) (HS.out _ bD) (fun hHeld=>?_)
     refine tkH 0 hHeld ?_;refine tkH 1 hHeld ?_;refine tkH 2 hHeld ?_;refine tkH 3 hHeld ?_;refine tkH 4 hHeld ?_;refine tkH 5 hHeld ?_;refine tkH 6 hHeld ?_;refine tkH 7 hHeld ?_;refine tkH 8 hHeld ?_;refine tkH 9 hHeld ?_;refine rdyH [10] (rcH (fun K hK=>?_) AllReadyH.nil);go_simp
     refine(HL2.out _ bwD).mono ?_;rintro e wl ⟨rfl,hbl⟩;have bL:=bD.trans (hbl.mono bD.size);refine hK.out _ _ (HS.out wl bL) (fun hHeld=>?_);clear hK K;try simp only[Act.put,sIA,sI0,sIS]
     refine tkH 11 hHeld ?_;refine tkH 12 hHeld ?_;refine tkH 13 hHeld ?_;refine tkH 14 hHeld ?_;refine tkH 15 hHeld ?_;refine tkH 16 hHeld ?_;refine tkH 17 hHeld ?_;refine tkH 18 hHeld ?_;refine tkH 19 hHeld ?_;refine rdyH [20] (rcH (fun K hK=>?_) AllReadyH.nil);go_simp
     refine(HF2.out _ (HWB.out wl bL).1).mono ?_;rintro e wf ⟨rfl,hbf⟩;have bF2:=bL.trans (hbf.mono bL.size);refine hK.out _ _ (HS.out wf bF2) (fun hHeld=>?_);clear hK K;try simp only[Act.put,sIA,sI0,sIS]
     refine tkH 21 hHeld ?_;refine tkH 22 hHeld ?_;refine wpAnyH_done (by kernel_rfl) ?_ _
     go_wp2_with fail
     go_roundw
     case measure=>simp[intOf];omega
     case rel=>exact⟨j+1,by omega,by go_num,aA0 (by rw[HSU.out,decide_eq_true (by omega)];rfl),(HWB.out wf bF2).2⟩
   ·clear HH2
    ·skip
     refine wp_region_held_drew (S:=(fun W=>W.cell? ⟨pb,po+s*2,none⟩=some (.string pnm)∧W.cell? ⟨pb,po+s*2+1,none⟩=some (.slice pta ptl ptc)∧W.cell? ⟨w3.heap.size,7,none⟩=some (.slice (some ⟨nb,noff,none⟩) gl' nc)∧W.cell? ⟨nb,noff+j,none⟩=some (.string nd))) (by kernel_rfl) (HS.out _ bD) (fun hHeld=>?_)
     refine tkH 0 hHeld ?_;refine tkH 1 hHeld ?_;refine tkH 2 hHeld ?_;refine tkH 3 hHeld ?_;refine tkH 4 hHeld ?_;refine tkH 5 hHeld ?_;refine tkH 6 hHeld ?_;refine tkH 7 hHeld ?_;refine tkH 8 hHeld ?_;refine tkH 9 hHeld ?_;refine rdyH [10] (rcH (fun K hK=>?_) AllReadyH.nil);go_simp
     refine(HL2.out _ bwD).mono ?_;rintro e wl ⟨rfl,hbl⟩;have bL:=bD.trans (hbl.mono bD.size);refine hK.out _ _ (HS.out wl bL) (fun hHeld=>?_);clear hK K;try simp only[Act.put,sIA,sI0,sIS]
     refine tkH 11 hHeld ?_;refine tkH 12 hHeld ?_;refine tnH 13 hHeld ?_;refine tnH 14 hHeld ?_;refine tnH 15 hHeld ?_;refine tnH 16 hHeld ?_;refine tnH 17 hHeld ?_;refine tnH 18 hHeld ?_;refine tnH 19 hHeld ?_;refine tnH 20 hHeld ?_;refine tnH 21 hHeld ?_;refine tkH 22 hHeld ?_;refine wpAnyH_done (by kernel_rfl) ?_ _
     go_wp2_with fail
     go_roundw
     case measure=>simp[intOf];omega
     case rel=>exact⟨j+1,by omega,by go_num,aA0 (by rw[HSU.out];rfl),(HWB.out wl bL).2⟩
attribute [local go_sem] aLG
set_option maxRecDepth 20000 in
set_option maxHeartbeats 1600000 in
theorem aPI(ss:List Sta)(w:World)(P:Nat->Prop)(a:Option Addr)(c:Nat)(x:Sta)(hR:aRF w P ss a)(hl:ss.length<=1000000):
  Calls Tryz.prog 77 #[.slice a ss.length c,.agg #[.int .i64 x.part,.string x.type]] w fun e w'=>e=.returned (.int .i64 (aCG ss x))∧Below w.heap.size w w':=by
 have HK:=aA0 (fun k (hk:k<ss.length)=>hR.at k hk);have bX:=aA2 w (.cells #[.int .i64 x.part,.string x.type] 72);have nX:=aA3 (w:=w) (N:=w.heap.size) #[.int .i64 x.part,.string x.type] 72 rfl;have zX:(w.alloc (.cells #[.int .i64 x.part,.string x.type] 72)).heap.size=w.heap.size+1:=by simp
 obtain⟨xp,xt⟩:=x;simp only at bX nX zX ⊢;clear hR;go_enter Tryz.func77,Tryz.ntmps77
 go_upto_region 1 with fail
 generalize w.alloc (.cells #[.int .i64 xp,.string xt] 72)=X at*;have HX:Hid (∀W,Below X.heap.size X W->(W.cell? ⟨w.heap.size,0,none⟩=some (.int .i64 xp)∧W.cell? ⟨w.heap.size,1,none⟩=some (.string xt))∧Below w.heap.size w W):=aA0 fun W hW=>by
  have h:=(hW.block w.heap.size (by omega)).trans nX
  exact⟨⟨(aA1 h 0 (by simp)).1,(aA1 h 1 (by simp)).1⟩,bX.trans (hW.mono bX.size)⟩
 clear nX bX zX;go_wp2_with fail
 go_loopw [5] (fun i wr=>∃k:Nat,k<=ss.length∧i=.int .i64 k∧Hid (∀j,j<k->(decide ((sta ss j).part=xp)&&((sta ss j).type.toList==xt.toList))=false)∧Below X.heap.size X wr) (fun i _=>ss.length- (intOf i).toNat)
 case atStart=>exact⟨0,Nat.zero_le _,rfl,aA0 fun j hj=>by omega,Below.refl _ _⟩
 case round=>
  obtain⟨k,hk,rfl,HN,hb⟩:=hrel;obtain⟨w0,rfl⟩:∃x,x=wr:=⟨wr,rfl⟩;obtain⟨⟨x0,x1⟩,bw⟩:=HX.out w0 hb;by_cases hlt:k<ss.length
  case neg=>
   have e:k=ss.length:=by omega
   have HE:Hid (aCG ss ⟨xp,xt⟩=-1):=aA0 (aB3 (by rw[<-e];exact HN.out))
   have hki:¬(k:Int)<(ss.length:Int):=by omega
   go_wp2_with fail
   go_ret
   exact⟨by rw[HE.out]<;>rfl,bw⟩
  have hki:(k:Int)<(ss.length:Int):=by omega
  obtain⟨b,off,rfl,-,c0,c1⟩:=HK.out k hlt;replace c0:=(bw.cell (aAA c0)).trans c0
  replace c1:=(bw.cell (aAA c1)).trans c1
  have HNO:Hid ((decide ((sta ss k).part=xp)&&((sta ss k).type.toList==xt.toList))=false->∀j,j<k+1->(decide ((sta ss j).part=xp)&&((sta ss j).type.toList==xt.toList))=false):=aA0 fun h j hj=>by
   by_cases e:j=k
   ·subst e;exact h
   ·exact HN.out j (by omega)
  have HYE:Hid ((decide ((sta ss k).part=xp)&&((sta ss k).type.toList==xt.toList))=true->aCG ss ⟨xp,xt⟩=k):=aA0 fun h=>aAX HN.out h hlt;generalize sta ss k=y at*;obtain⟨yp,yt⟩:=y;simp only at c0 c1 HNO HYE;have HS0:Hid ((w0.drew.cell? ⟨w.heap.size,0,none⟩=some (.int .i64 xp)∧w0.drew.cell? ⟨w.heap.size,1,none⟩=some (.string xt))∧w0.drew.cell? ⟨b,off+k*2,none⟩=some (.int .i64 yp)∧w0.drew.cell? ⟨b,off+k*2+1,none⟩=some (.string yt)):=aA0 ⟨⟨x0,x1⟩,c0,c1⟩;have HDR:=aA0 (And.intro hb.drew bw.drew);clear x0 x1 c0 c1;go_upto_region 4 with fail
  by_cases hp:yp=xp
  ·subst hp;by_cases ht:yt.toList=xt.toList
   ·have HH:=aA0 ht;refine wp_region_held_drew (S:=(fun W=>(W.cell? ⟨w.heap.size,0,none⟩=some (.int .i64 yp)∧W.cell? ⟨w.heap.size,1,none⟩=some (.string xt))∧W.cell? ⟨b,off+k*2,none⟩=some (.int .i64 yp)∧W.cell? ⟨b,off+k*2+1,none⟩=some (.string yt))) (by kernel_rfl) HS0.out (fun hHeld=>?_)
    refine tkH 0 hHeld ?_;refine tkH 1 hHeld ?_;refine tkH 2 hHeld ?_;refine tkH 3 hHeld ?_;refine tkH 4 hHeld ?_;refine tkH 5 hHeld ?_;refine wpAnyH_done (by kernel_rfl) ?_ _
    go_wp2_with fail
    go_ret
    exact⟨by rw[HYE.out (by simp[HH.out])]<;>rfl,HDR.out.2⟩
   ·have HH:=aA0 ht;refine wp_region_held_drew (S:=(fun W=>(W.cell? ⟨w.heap.size,0,none⟩=some (.int .i64 yp)∧W.cell? ⟨w.heap.size,1,none⟩=some (.string xt))∧W.cell? ⟨b,off+k*2,none⟩=some (.int .i64 yp)∧W.cell? ⟨b,off+k*2+1,none⟩=some (.string yt))) (by kernel_rfl) HS0.out (fun hHeld=>?_)
    refine tkH 0 hHeld ?_;refine tkH 1 hHeld ?_;refine tkH 2 hHeld ?_;refine tkH 3 hHeld ?_;refine tkH 4 hHeld ?_;refine tkH 5 hHeld ?_;refine wpAnyH_done (by kernel_rfl) ?_ _
    go_wp2_with fail
    go_roundw
    case measure=>simp[intOf];omega
    case rel=>exact⟨k+1,by omega,by go_num,aA0 (HNO.out (by simp[HH.out])),HDR.out.1⟩
  ·have hpi:¬((yp:Nat):Int)=((xp:Nat):Int):=by omega
   have HH:=aA0 hp;refine wp_region_held_drew (S:=(fun W=>(W.cell? ⟨w.heap.size,0,none⟩=some (.int .i64 xp)∧W.cell? ⟨w.heap.size,1,none⟩=some (.string xt))∧W.cell? ⟨b,off+k*2,none⟩=some (.int .i64 yp)∧W.cell? ⟨b,off+k*2+1,none⟩=some (.string yt))) (by kernel_rfl) HS0.out (fun hHeld=>?_)
   refine tkH 0 hHeld ?_;refine tkH 1 hHeld ?_;refine tkH 2 hHeld ?_;refine tkH 3 hHeld ?_;refine tkH 4 hHeld ?_;refine tkH 5 hHeld ?_;refine wpAnyH_done (by kernel_rfl) ?_ _
   go_wp2_with fail
   go_roundw
   case measure=>simp[intOf];omega
   case rel=>exact⟨k+1,by omega,by go_num,aA0 (HNO.out (by simp[HH.out])),HDR.out.1⟩
end Go.Proofs.YtcebpkeiaiiphaaGreatDoor
