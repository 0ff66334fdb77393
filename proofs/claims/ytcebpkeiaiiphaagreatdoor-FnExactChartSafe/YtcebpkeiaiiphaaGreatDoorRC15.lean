import Derived.Test.YtcebpkeiaiiphaaGreatDoorRC14
set_option linter.unusedSimpArgs false
set_option linter.unusedVariables false
namespace Go.Proofs.YtcebpkeiaiiphaaGreatDoor
open Go.RowKit Go.Maps
attribute [local go_sem] Oper.semAt_some
theorem aLZ(ps:List Pt)(nm:ByteArray)(f:F)(ol cs cn:Nat)(h1:(aAW ps nm f.name).length=ol)(h2:cntP (aE2 ps nm f.name) ps.length=cs)(h3:cntP (aAI ps nm f.name) ps.length=cn)(h4:aA7 (aEJ ps nm f) ps.length=true):
  aB0 ps nm f=if ol=0 then 6 else if 1<ol∧(f.name.toList==(keyM ps nm).toList)=false∧cs<ol then 5 else if 0<cn∧1<ol then 7 else if aC4 ps nm f=false then 7 else 0:=by
 unfold aB0;rw[h1,h2,h3,h4];simp
theorem aI7(ps:List Pt)(nm:ByteArray)(f:F)(k:Nat)(hk:k<ps.length)(h:aEJ ps nm f k=false):aB0 ps nm f=3:=by
 unfold aB0;rw[aAJ hk h];simp
set_option maxRecDepth 20000 in
set_option maxHeartbeats 3200000 in
theorem aNM(ps:List Pt)(nm:ByteArray)(f:F)(na:Option Addr)(nc:Nat)(at':Value)(w:World)(B:Nat)(a:Option Addr)(c:Nat)(hR:aAP w (·<B) ps a)(hB:B<=w.heap.size)(hN:Strs w (·<B) f.needs na)(hl:ps.length<=1000000000)(hl2:f.needs.length<=17592186044416):
  Calls Tryz.prog 70 #[.slice a ps.length c,at',.string nm,fval f na nc] w fun e w'=>e=.returned (.int .i64 (aB0 ps nm f))∧Below w.heap.size w w':=by
 have HR:=aA0 hR;have HBL:=aA0 hB;have HNS:=aA0 hN;have HFO:=aA0 (aLZ ps nm f);have HFU:=aA0 (aI7 ps nm f);have HPN:Hid (aC4 ps nm f=aA7 (fun i=>aA7 (fun k=>!(aAI ps nm (nth f.needs i) k)) ps.length) f.needs.length):=aA0 rfl;obtain⟨al,hal⟩:∃al,al=aEJ ps nm f:=⟨_,rfl⟩;obtain⟨sh,hsh⟩:∃sh,sh=aE2 ps nm f.name:=⟨_,rfl⟩;obtain⟨ne,hne⟩:∃ne,ne=aAI ps nm f.name:=⟨_,rfl⟩;rw[<-hal,<-hsh,<-hne] at HFO;rw[<-hal] at HFU;have HAL:Hid (∀k,al k=(!(sayB (pth ps k) nm f.name)||aHW f (sayF (pth ps k) nm f.name))):=aA0 fun k=>by rw[hal];rfl
 have HSH:Hid (∀k,sh k=(sayB (pth ps k) nm f.name&&(sayF (pth ps k) nm f.name).shared)):=aA0 fun k=>by rw[hsh];rfl
 have HNE:Hid (∀k,ne k=(sayB (pth ps k) nm f.name&&decide (0<(sayF (pth ps k) nm f.name).needs.length))):=aA0 fun k=>by rw[hne];rfl
 clear hR hB hN hal hsh hne;have HLA:=aA0 (fun(g:F) (ma:Option Addr) (mc:Nat) (W:World)=>aNY f g na ma nc mc W);have HFC:=aA0 (rfl:aB0 ps nm f=aB0 ps nm f);obtain⟨code,hcode⟩:∃code,code=aB0 ps nm f:=⟨_,rfl⟩;rw[<-hcode] at HFO HFU ⊢;clear hcode HFC;have HKE:=aA0 (fun W (hW:Below w.heap.size w W)=>aJX ps nm W B a c (HR.out.under (hW.mono HBL.out)) (Nat.le_trans HBL.out hW.size));have HOWN:=aA0 (fun W (hW:Below w.heap.size w W)=>aI3 ps nm f.name W B a c (HR.out.under (hW.mono HBL.out)) (Nat.le_trans HBL.out hW.size));have hOL:(aAW ps nm f.name).length<=ps.length:=aFJ _ _ _ _;obtain⟨fn,fo,fl,fm,ff,fh,fs,fd⟩:=f;simp only at HNS HFO HPN HAL HSH HNE HLA HOWN hOL hl2;obtain⟨ky,HKY⟩:∃ky,Hid (keyM ps nm=ky):=⟨_,aA0 rfl⟩;rw[HKY.out] at HFO HKE;have bX:=aA2 w (.cells #[.string fn,.string fo,.bool fl,.bool fm,.bool ff,.bool fh,.bool fs,.slice na fd.length nc] 80);have zX:(w.alloc (.cells #[.string fn,.string fo,.bool fl,.bool fm,.bool ff,.bool fh,.bool fs,.slice na fd.length nc] 80)).heap.size=w.heap.size+1:=by simp
 have nX:=heap_alloc_new w (.cells #[.string fn,.string fo,.bool fl,.bool fm,.bool ff,.bool fh,.bool fs,.slice na fd.length nc] 80);unfold fval;go_enter Tryz.func70,Tryz.ntmps70
 have x00:=(aA1 nX 0 (by simp)).1
 simp only[List.getElem_toArray,List.getElem_cons_zero] at x00;go_wp2_with fail
 clear x00;generalize w.alloc (.cells #[.string fn,.string fo,.bool fl,.bool fm,.bool ff,.bool fh,.bool fs,.slice na fd.length nc] 80)=X at*;have HX:Hid (∀W,Below X.heap.size X W->(W.cell? ⟨w.heap.size,0,none⟩=some (.string fn)∧W.cell? ⟨w.heap.size,1,none⟩=some (.string fo)∧W.cell? ⟨w.heap.size,2,none⟩=some (.bool fl)∧W.cell? ⟨w.heap.size,3,none⟩=some (.bool fm)∧W.cell? ⟨w.heap.size,4,none⟩=some (.bool ff)∧W.cell? ⟨w.heap.size,5,none⟩=some (.bool fh)∧W.cell? ⟨w.heap.size,6,none⟩=some (.bool fs)∧W.cell? ⟨w.heap.size,7,none⟩=some (.slice na fd.length nc))∧Below w.heap.size w W):=aA0 fun W hW=>by
  have h:=(hW.block _ (by omega)).trans nX
  exact⟨⟨(aA1 h 0 (by simp)).1,(aA1 h 1 (by simp)).1,(aA1 h 2 (by simp)).1,(aA1 h 3 (by simp)).1,(aA1 h 4 (by simp)).1,(aA1 h 5 (by simp)).1,(aA1 h 6 (by simp)).1,(aA1 h 7 (by simp)).1⟩,bX.trans (hW.mono (by omega))⟩
 clear nX;refine(HOWN.out X bX).mono ?_;rintro e w1 ⟨oa,oc,rfl,-,hb1⟩;obtain⟨ol,HOL⟩:∃ol,Hid ((aAW ps nm fn).length=ol):=⟨_,aA0 rfl⟩;rw[HOL.out] at hOL ⊢;have HFO:=aA0 (fun cs cn=>HFO.out ol cs cn HOL.out);clear HOWN HOL;go_wp2_with fail
 go_loopw [10,11,12] (fun s n i wr=>∃(k cs cn:Nat),k<=ps.length∧s=.int .i64 cs∧n=.int .i64 cn∧i=.int .i64 k∧Hid (cntP sh k=cs∧cntP ne k=cn∧aA7 al k=true)∧cs<=k∧cn<=k∧Below X.heap.size X wr) (fun _ _ i _=>ps.length- (intOf i).toNat)
 case atStart=>exact⟨0,0,0,Nat.zero_le _,rfl,rfl,rfl,aA0 ⟨rfl,rfl,rfl⟩,Nat.le_refl _,Nat.le_refl _,hb1⟩
 case round=>
  obtain⟨k,cs,cn,hk,rfl,rfl,rfl,HC,hcs,hcn,hb⟩:=hrel;obtain⟨w0,rfl⟩:∃x,x=wr:=⟨wr,rfl⟩;have zb:=hb.size;obtain⟨⟨x0,-⟩,hbw⟩:=HX.out w0 hb;by_cases hlt:k<ps.length
  ·have hki:(k:Int)<(ps.length:Int):=by omega
   obtain⟨pb,po,ta,tc,rfl,hpB,q0,q1,hP⟩:=(HR.out.under (hbw.mono HBL.out)).at k hlt;have HG:=aA0 (fun W (hW:Below w0.heap.size w0 W)=>(aDH (pth ps k) nm fn W B _ (hP.under (hW.mono (by have:=HBL.out;omega))) (by have:=HBL.out;have:=hW.size;omega)).mono (R':=fun e w'=>∃(ma:Option Addr) (mc:Nat),e=.returned (.tuple #[fval (sayF (pth ps k) nm fn) ma mc,.bool (sayB (pth ps k) nm fn)])∧Below W.heap.size W w') fun e w' h=>by
    obtain⟨ma,mc,h1,h2,-⟩:=h;exact⟨ma,mc,h1,h2⟩)
   have HA1:=aA0 (HAL.out k);have HS1:=aA0 (HSH.out k);have HN1:=aA0 (HNE.out k);have HFU1:=aA0 (HFU.out k hlt);clear hP;generalize pth ps k=p at*;generalize sayF p nm fn=g at*;generalize sayB p nm fn=kn at*;have HLA1:=aA0 (HLA.out g);have HAG:Hid (aHW ⟨fn,fo,fl,fm,ff,fh,fs,fd⟩ g=aHW ⟨fn,fo,fl,fm,ff,fh,fs,fd⟩ g):=aA0 rfl;obtain⟨lk,hlk⟩:∃lk,lk=aHW ⟨fn,fo,fl,fm,ff,fh,fs,fd⟩ g:=⟨_,rfl⟩;rw[<-hlk] at HLA1 HA1;clear hlk HAG;obtain⟨gn,gof,gl,gm,gfr,gh,gs,gd⟩:=g;simp only[fval] at HG HLA1;simp only at HS1 HN1;have HCL:Hid (∀W,Below w0.heap.size w0 W->W.cell? ⟨pb,po+k*2,none⟩=some (.string p.name)∧W.cell? ⟨pb,po+k*2+1,none⟩=some (.slice ta p.types.length tc)∧W.cell? ⟨w.heap.size,0,none⟩=some (.string fn)):=aA0 fun W hW=>⟨(hW.cell (aAA q0)).trans q0,(hW.cell (aAA q1)).trans q1,(hW.cell (aAA x0)).trans x0⟩;clear q0 q1 x0;go_wp2_with fail
   go_cut [13,14] (fun r o wx=>∃(fb:Nat) (ma:Option Addr) (mc:Nat),r=.pointer (some ⟨fb,0,none⟩)∧o=.bool kn∧Hid (wx.cell? ⟨fb,0,none⟩=some (.string gn)∧wx.cell? ⟨fb,1,none⟩=some (.string gof)∧wx.cell? ⟨fb,2,none⟩=some (.bool gl)∧wx.cell? ⟨fb,3,none⟩=some (.bool gm)∧wx.cell? ⟨fb,4,none⟩=some (.bool gfr)∧wx.cell? ⟨fb,5,none⟩=some (.bool gh)∧wx.cell? ⟨fb,6,none⟩=some (.bool gs)∧wx.cell? ⟨fb,7,none⟩=some (.slice ma gd.length mc))∧Below w0.heap.size w0 wx)
   case first=>
    refine wp_region_held_drew (S:=(fun w'=>w'.cell? ⟨pb,po+k*2,none⟩=some (.string p.name)∧w'.cell? ⟨pb,po+k*2+1,none⟩=some (.slice ta p.types.length tc)∧w'.cell? ⟨w.heap.size,0,none⟩=some (.string fn))) (by kernel_rfl) (HCL.out _ (Below.refl _ _).drew) (fun hHeld=>?_)
    have bX:Below w0.heap.size w0 w0.drew:=(Below.refl _ _).drew;generalize w0.drew=wD at*;refine tkH 0 hHeld ?_;refine tkH 1 hHeld ?_;refine tkH 2 hHeld ?_;refine tkH 3 hHeld ?_;refine tkH 4 hHeld ?_;refine tkH 5 hHeld ?_;refine tkH 6 hHeld ?_;refine rdyH [7,11] ?_;refine rcH (fun K hK=>?_) ?_
    ·go_simp
     refine(HG.out wD bX).mono ?_;rintro e wK ⟨ma,mc,rfl,bK⟩;have bX:=bX.trans (bK.mono bX.size);refine hK.out _ _ (HCL.out _ bX) (fun hHeld=>?_);clear hK K;try simp only[Act.put,sIA,sI0,sIS]
     refine tkH 8 hHeld ?_;refine tkH 9 hHeld ?_;refine tkH 10 hHeld ?_;refine rdyH [11] ?_;refine rcH (fun K hK=>?_) AllReadyH.nil;go_simp
     have bE:=aA2 wK (.cells #[.string ⟨#[]⟩,.string ⟨#[]⟩,.bool false,.bool false,.bool false,.bool false,.bool false,.slice none 0 0] 80);have nE:=aA3 (w:=wK) #[.string ⟨#[]⟩,.string ⟨#[]⟩,.bool false,.bool false,.bool false,.bool false,.bool false,.slice none 0 0] 80 rfl;have qE:w0.heap.size<=wK.heap.size:=bX.size;have zE:wK.heap.size<(wK.alloc (.cells #[.string ⟨#[]⟩,.string ⟨#[]⟩,.bool false,.bool false,.bool false,.bool false,.bool false,.slice none 0 0] 80)).heap.size:=by simp
     have bX:=bX.trans (bE.mono bX.size);refine hK.out _ _ (HCL.out _ bX) (fun hHeld=>?_);clear hK K;try simp only[Act.put,sIA,sI0,sIS]
     generalize wK.alloc (.cells #[.string ⟨#[]⟩,.string ⟨#[]⟩,.bool false,.bool false,.bool false,.bool false,.bool false,.slice none 0 0] 80)=wE at*;refine rdyH [12] ?_;refine rcH (fun K hK=>?_) AllReadyH.nil;obtain⟨y0,g0⟩:=aA1 nE 0 (by simp)
     obtain⟨y1,g1⟩:=aA1 nE 1 (by simp)
     obtain⟨y2,g2⟩:=aA1 nE 2 (by simp)
     obtain⟨y3,g3⟩:=aA1 nE 3 (by simp)
     obtain⟨y4,g4⟩:=aA1 nE 4 (by simp)
     obtain⟨y5,g5⟩:=aA1 nE 5 (by simp)
     obtain⟨y6,g6⟩:=aA1 nE 6 (by simp)
     obtain⟨y7,g7⟩:=aA1 nE 7 (by simp)
     go_simp
     refine hK.out _ _ (HCL.out _ (aAH bX qE _ _ _ _ _ _ _ _)) (fun hHeld=>?_);clear hK K;try simp only[Act.put,sIA,sI0,sIS]
     refine tkH 13 hHeld ?_;refine wpAnyH_done (by kernel_rfl) ?_ _
     go_wp2_with fail
     go_meet
     case rel=>
      have HX8:=aA0 (aBQ nE rfl (.string gn) (.string gof) (.bool gl) (.bool gm) (.bool gfr) (.bool gh) (.bool gs) (.slice ma gd.length mc) _ rfl);exact⟨_,ma,mc,rfl,rfl,HX8,aAH bX qE _ _ _ _ _ _ _ _⟩
    refine rcH (fun K hK=>?_) AllReadyH.nil;go_simp
    have bE:=aA2 wD (.cells #[.string ⟨#[]⟩,.string ⟨#[]⟩,.bool false,.bool false,.bool false,.bool false,.bool false,.slice none 0 0] 80);have nE:=aA3 (w:=wD) #[.string ⟨#[]⟩,.string ⟨#[]⟩,.bool false,.bool false,.bool false,.bool false,.bool false,.slice none 0 0] 80 rfl;have qE:w0.heap.size<=wD.heap.size:=bX.size;have zE:wD.heap.size<(wD.alloc (.cells #[.string ⟨#[]⟩,.string ⟨#[]⟩,.bool false,.bool false,.bool false,.bool false,.bool false,.slice none 0 0] 80)).heap.size:=by simp
    have bX:=bX.trans (bE.mono bX.size);refine hK.out _ _ (HCL.out _ bX) (fun hHeld=>?_);clear hK K;try simp only[Act.put,sIA,sI0,sIS]
    generalize wD.alloc (.cells #[.string ⟨#[]⟩,.string ⟨#[]⟩,.bool false,.bool false,.bool false,.bool false,.bool false,.slice none 0 0] 80)=wE at*;refine rdyH [7] ?_;refine rcH (fun K hK=>?_) AllReadyH.nil;go_simp
    refine(HG.out wE bX).mono ?_;rintro e wK ⟨ma,mc,rfl,bK⟩;have bX:=bX.trans (bK.mono bX.size);have nE:=(bK.block _ zE).trans nE;have zE:=Nat.lt_of_lt_of_le zE bK.size;refine hK.out _ _ (HCL.out _ bX) (fun hHeld=>?_);clear hK K;try simp only[Act.put,sIA,sI0,sIS]
    refine tkH 8 hHeld ?_;refine tkH 9 hHeld ?_;refine tkH 10 hHeld ?_;refine rdyH [12] ?_;refine rcH (fun K hK=>?_) AllReadyH.nil;obtain⟨y0,g0⟩:=aA1 nE 0 (by simp)
    obtain⟨y1,g1⟩:=aA1 nE 1 (by simp)
    obtain⟨y2,g2⟩:=aA1 nE 2 (by simp)
    obtain⟨y3,g3⟩:=aA1 nE 3 (by simp)
    obtain⟨y4,g4⟩:=aA1 nE 4 (by simp)
    obtain⟨y5,g5⟩:=aA1 nE 5 (by simp)
    obtain⟨y6,g6⟩:=aA1 nE 6 (by simp)
    obtain⟨y7,g7⟩:=aA1 nE 7 (by simp)
    go_simp
    refine hK.out _ _ (HCL.out _ (aAH bX qE _ _ _ _ _ _ _ _)) (fun hHeld=>?_);clear hK K;try simp only[Act.put,sIA,sI0,sIS]
    refine tkH 13 hHeld ?_;refine wpAnyH_done (by kernel_rfl) ?_ _
    go_wp2_with fail
    go_meet
    case rel=>
     have HX8:=aA0 (aBQ nE rfl (.string gn) (.string gof) (.bool gl) (.bool gm) (.bool gfr) (.bool gh) (.bool gs) (.slice ma gd.length mc) _ rfl);exact⟨_,ma,mc,rfl,rfl,HX8,aAH bX qE _ _ _ _ _ _ _ _⟩
   case rest=>
   obtain⟨fb,ma,mc,rfl,rfl,HB8,bx⟩:=hcut;obtain⟨wx,rfl⟩:∃x,x=wc:=⟨wc,rfl⟩;have zx:=bx.size;have bXx:=hb.trans (bx.mono zb);cases kn
   ·have HC1:Hid (cntP sh (k+1)=cs∧cntP ne (k+1)=cn∧aA7 al (k+1)=true):=aA0 (by
     obtain⟨h1,h2,h3⟩:=HC.out;rw[cntP,cntP,aA7,h1,h2,h3,HA1.out,HS1.out,HN1.out];simp)
    go_wp2_with fail
    go_roundw
    case measure=>simp[intOf];omega
    case rel=>exact⟨k+1,cs,cn,by omega,by simp,by simp,by go_num,HC1,by omega,by omega,bXx⟩
   obtain⟨⟨x0,x1,x2,x3,x4,x5,x6,x7⟩,hbx⟩:=HX.out wx bXx;obtain⟨y0,y1,y2,y3,y4,y5,y6,y7⟩:=HB8.out;have HY:Hid (∀W,Below wx.heap.size wx W->W.cell? ⟨fb,6,none⟩=some (.bool gs)∧W.cell? ⟨fb,7,none⟩=some (.slice ma gd.length mc)):=aA0 fun W hW=>⟨(hW.cell (aAA y6)).trans y6,(hW.cell (aAA y7)).trans y7⟩;have HAK:=aA0 (HLA1.out ma mc wx);cases lk
   ·have HE:=aA0 (HFU1.out (by rw[HA1.out];rfl))
    go_wp2_with (go_at_call 100;refine HAK.out.mono ?_;rintro e w2 ⟨rfl,hb2⟩)
    go_ret
    exact⟨by rw[HE.out]<;>rfl,hbx.trans (hb2.mono hbx.size)⟩
   clear HFU1;cases gs<;>by_cases hgd:gd.length=0
   ·have HC1:Hid (cntP sh (k+1)=cs∧cntP ne (k+1)=cn∧aA7 al (k+1)=true):=aA0 (by
     obtain⟨h1,h2,h3⟩:=HC.out;rw[cntP,cntP,aA7,h1,h2,h3,HA1.out,HS1.out,HN1.out];simp[hgd])
    rw[hgd] at HY;clear hgd;go_wp2_with (go_at_call 100;refine HAK.out.mono ?_;rintro e w2 ⟨rfl,hb2⟩;obtain⟨z6,z7⟩:=HY.out w2 hb2)
    go_roundw
    case measure=>simp[intOf];omega
    case rel=>exact⟨k+1,cs,cn,by omega,by simp,by simp,by go_num,HC1,by omega,by omega,bXx.trans (hb2.mono bXx.size)⟩
   ·have hg0:0<gd.length:=by omega
    have hg1:(0:Int)<(gd.length:Int):=by omega
    have HC1:Hid (cntP sh (k+1)=cs∧cntP ne (k+1)=cn+1∧aA7 al (k+1)=true):=aA0 (by
     obtain⟨h1,h2,h3⟩:=HC.out;rw[cntP,cntP,aA7,h1,h2,h3,HA1.out,HS1.out,HN1.out];simp[hg0])
    go_wp2_with (go_at_call 100;refine HAK.out.mono ?_;rintro e w2 ⟨rfl,hb2⟩;obtain⟨z6,z7⟩:=HY.out w2 hb2)
    go_roundw
    case measure=>simp[intOf];omega
    case rel=>exact⟨k+1,cs,cn+1,by omega,by simp,by go_num,by go_num,HC1,by omega,by omega,bXx.trans (hb2.mono bXx.size)⟩
   ·have HC1:Hid (cntP sh (k+1)=cs+1∧cntP ne (k+1)=cn∧aA7 al (k+1)=true):=aA0 (by
     obtain⟨h1,h2,h3⟩:=HC.out;rw[cntP,cntP,aA7,h1,h2,h3,HA1.out,HS1.out,HN1.out];simp[hgd])
    rw[hgd] at HY;clear hgd;go_wp2_with (go_at_call 100;refine HAK.out.mono ?_;rintro e w2 ⟨rfl,hb2⟩;obtain⟨z6,z7⟩:=HY.out w2 hb2)
    go_roundw
    case measure=>simp[intOf];omega
    case rel=>exact⟨k+1,cs+1,cn,by omega,by go_num,by simp,by go_num,HC1,by omega,by omega,bXx.trans (hb2.mono bXx.size)⟩
   ·have hg0:0<gd.length:=by omega
    have hg1:(0:Int)<(gd.length:Int):=by omega
    have HC1:Hid (cntP sh (k+1)=cs+1∧cntP ne (k+1)=cn+1∧aA7 al (k+1)=true):=aA0 (by
     obtain⟨h1,h2,h3⟩:=HC.out;rw[cntP,cntP,aA7,h1,h2,h3,HA1.out,HS1.out,HN1.out];simp[hg0])
    go_wp2_with (go_at_call 100;refine HAK.out.mono ?_;rintro e w2 ⟨rfl,hb2⟩;obtain⟨z6,z7⟩:=HY.out w2 hb2)
    go_roundw
    case measure=>simp[intOf];omega
    case rel=>exact⟨k+1,cs+1,cn+1,by omega,by go_num,by go_num,by go_num,HC1,by omega,by omega,bXx.trans (hb2.mono bXx.size)⟩
  have e:k=ps.length:=by omega
  subst e;have HCO:=aA0 (HFO.out cs cn HC.out.1 HC.out.2.1 HC.out.2.2);clear HFO HC HFU HAL HSH HNE HLA;by_cases h0:ol=0
  ·subst h0;have HE:Hid (code=6):=aA0 (by rw[HCO.out];simp)
   clear x0;go_wp2_with fail
   go_ret
   exact⟨by rw[HE.out]<;>rfl,hbw⟩
  have HCO1:Hid (code=if 1<ol∧(fn.toList==ky.toList)=false∧cs<ol then 5 else if 0<cn∧1<ol then 7 else if aC4 ps nm ⟨fn,fo,fl,fm,ff,fh,fs,fd⟩=false then 7 else 0):=aA0 (by rw[HCO.out,if_neg h0])
  clear HCO;have h0i:((ol:Int)==0)=false:=beq_eq_false_iff_ne.2 (by omega)
  have hbD:Below X.heap.size X w0.drew:=hb.trans ((Below.refl _ _).drew.mono zb);by_cases h1o:1<ol
  ·have h1oi:(1:Int)<(ol:Int):=by omega
   cases hkq:(fn.toList==ky.toList)
   ·by_cases hco:cs<ol
    ·have hcoi:(cs:Int)<(ol:Int):=by omega
     have HE:Hid (code=5):=aA0 (by rw[HCO1.out,if_pos ⟨h1o,hkq,hco⟩])
     clear x0;go_wp2_with fail
     refine wp_region_held_drew (S:=(fun w'=>w'.cell? ⟨w.heap.size,0,none⟩=some (.string fn))) (by kernel_rfl) (HX.out _ hbD).1.1 (fun hHeld=>?_)
     refine tkH 0 hHeld ?_;refine tkH 1 hHeld ?_;refine tkH 2 hHeld ?_;refine tkH 3 hHeld ?_;refine tkH 4 hHeld ?_;refine tkH 5 hHeld ?_;refine tkH 6 hHeld ?_;refine tkH 7 hHeld ?_;refine rdyH [8] (rcH (fun K hK=>?_) AllReadyH.nil);go_simp
     refine(HKE.out _ (HX.out _ hbD).2).mono ?_;rintro e wz ⟨rfl,hbk⟩;have hbz:=hbD.trans (hbk.mono hbD.size);refine hK.out _ _ (HX.out wz hbz).1.1 (fun hHeld=>?_);clear hK K;try simp only[Act.put,sIA,sI0,sIS]
     refine tkH 9 hHeld ?_;refine tkH 10 hHeld ?_;refine tkH 11 hHeld ?_;refine tkH 12 hHeld ?_;refine tkH 13 hHeld ?_;refine tkH 14 hHeld ?_;refine tkH 15 hHeld ?_;refine tkH 16 hHeld ?_;refine wpAnyH_done (by kernel_rfl) ?_ _
     go_wp2_with fail
     go_ret
     exact⟨by rw[HE.out]<;>rfl,(HX.out wz hbz).2⟩
    ·have hcoi:¬(cs:Int)<(ol:Int):=by omega
     have HCO2:Hid (code=if 0<cn∧1<ol then 7 else if aC4 ps nm ⟨fn,fo,fl,fm,ff,fh,fs,fd⟩=false then 7 else 0):=aA0 (by rw[HCO1.out,if_neg fun h=>hco h.2.2])
     clear x0 HCO1;go_wp2_with fail
     refine wp_region_held_drew (S:=(fun w'=>w'.cell? ⟨w.heap.size,0,none⟩=some (.string fn))) (by kernel_rfl) (HX.out _ hbD).1.1 (fun hHeld=>?_)
     refine tkH 0 hHeld ?_;refine tkH 1 hHeld ?_;refine tkH 2 hHeld ?_;refine tkH 3 hHeld ?_;refine tkH 4 hHeld ?_;refine tkH 5 hHeld ?_;refine tkH 6 hHeld ?_;refine tkH 7 hHeld ?_;refine rdyH [8] (rcH (fun K hK=>?_) AllReadyH.nil);go_simp
     refine(HKE.out _ (HX.out _ hbD).2).mono ?_;rintro e wz ⟨rfl,hbk⟩;have hbz:=hbD.trans (hbk.mono hbD.size);refine hK.out _ _ (HX.out wz hbz).1.1 (fun hHeld=>?_);clear hK K;try simp only[Act.put,sIA,sI0,sIS]
     refine tkH 9 hHeld ?_;refine tkH 10 hHeld ?_;refine tkH 11 hHeld ?_;refine tkH 12 hHeld ?_;refine tkH 13 hHeld ?_;refine tkH 14 hHeld ?_;refine tkH 15 hHeld ?_;refine tkH 16 hHeld ?_;refine wpAnyH_done (by kernel_rfl) ?_ _
     by_cases hcn0:0<cn∧1<ol
     ·have HE:Hid (code=7):=aA0 (by rw[HCO2.out,if_pos hcn0])
      have hc0:=hcn0.1;have hc1:=hcn0.2;have hc0i:(0:Int)<(cn:Int):=by omega
      have hc1i:(1:Int)<(ol:Int):=by omega
      go_wp2_with fail
      go_ret
      exact⟨by rw[HE.out]<;>rfl,(HX.out wz hbz).2⟩
     have HCO3:Hid (code=if aA7 (fun i=>aA7 (fun k=>!(aAI ps nm (nth fd i) k)) ps.length) fd.length=false then 7 else 0):=aA0 (by rw[HCO2.out,if_neg hcn0,HPN.out])
     have hcnx:cn=0∨(0<cn∧¬1<ol):=by
      rcases Nat.eq_zero_or_pos cn with h| h
      ·exact Or.inl h
      ·exact Or.inr ⟨h,fun h2=>hcn0 ⟨h,h2⟩⟩
     clear HCO2;obtain⟨qO,hqO⟩:∃qO,qO=fun i=>aA7 (fun k=>!(aAI ps nm (nth fd i) k)) ps.length:=⟨_,rfl⟩;rw[<-hqO] at HCO3;have HQO:Hid (∀i,qO i=aA7 (fun k=>!(aAI ps nm (nth fd i) k)) ps.length):=aA0 fun i=>by rw[hqO]
     clear hqO hcn0;rcases hcnx with hcz| ⟨hcz,hoz⟩
     all_goals (try (exfalso;omega))
     all_goals
      (try subst hcz)
      (try (have hczi:(0:Int)<(cn:Int):=by omega))
      (try (have hozi:¬(1:Int)<(ol:Int):=by omega))
      go_wp2_with fail
      go_loopw [15] (fun i wr=>∃j:Nat,j<=fd.length∧i=.int .i64 j∧Hid (aA7 qO j=true)∧Below X.heap.size X wr) (fun i _=>fd.length- (intOf i).toNat)
      case atStart=>exact⟨0,Nat.zero_le _,rfl,aA0 rfl,hbz⟩
      case round=>
       obtain⟨j,hj,rfl,HJ,hb3⟩:=hrel;obtain⟨w3,rfl⟩:∃x,x=wr:=⟨wr,rfl⟩;obtain⟨⟨-,-,-,-,-,-,-,x7⟩,hbw3⟩:=HX.out w3 hb3;by_cases hjl:j<fd.length
       case neg=>
        have ej:j=fd.length:=by omega
        subst ej;have HE:Hid (code=0):=aA0 (by rw[HCO3.out,HJ.out];rfl)
        go_wp2_with fail
        go_ret
        exact⟨by rw[HE.out]<;>rfl,hbw3⟩
       have hji:(j:Int)<(fd.length:Int):=by omega
       go_wp2_with fail
       clear x7;go_loopw [16] (fun i wr=>∃k:Nat,k<=ps.length∧i=.int .i64 k∧Hid (aA7 (fun k=>!(aAI ps nm (nth fd j) k)) k=true)∧Below X.heap.size X wr) (fun i _=>ps.length- (intOf i).toNat)
       case atStart=>exact⟨0,Nat.zero_le _,rfl,aA0 rfl,hb3⟩
       case round=>
        obtain⟨k,hk2,rfl,HK,hb4⟩:=hrel;obtain⟨w0,rfl⟩:∃x,x=wr:=⟨wr,rfl⟩;have zb4:=hb4.size;obtain⟨⟨-,-,-,-,-,-,-,x7⟩,hbw4⟩:=HX.out w0 hb4;by_cases hkl:k<ps.length
        case neg=>
         have ek:k=ps.length:=by omega
         subst ek;have HJ1:Hid (aA7 qO (j+1)=true):=aA0 (by rw[aA7,HJ.out,HQO.out,HK.out];rfl)
         clear x7;go_wp2_with fail
         go_roundw
         case measure=>simp[intOf];omega
         case rel=>exact⟨j+1,by omega,by go_num,HJ1,hb4⟩
        have hkli:(k:Int)<(ps.length:Int):=by omega
        obtain⟨pb,po,ta,tc,rfl,hpB,q0,q1,hP⟩:=(HR.out.under (hbw4.mono HBL.out)).at k hkl;obtain⟨nb,no,rfl,hnB,hnc⟩:=(HNS.out.under (hbw4.mono HBL.out)).1 (by intro e;rw[e] at hjl;simp at hjl)
        have q2:=hnc j hjl;have HG:=aA0 (fun W (hW:Below w0.heap.size w0 W)=>(aDH (pth ps k) nm (nth fd j) W B _ (hP.under (hW.mono (by have:=HBL.out;have:=hbw4.size;omega))) (by have:=HBL.out;have:=hW.size;have:=hbw4.size;omega)).mono (R':=fun e w'=>∃(ma:Option Addr) (mc:Nat),e=.returned (.tuple #[fval (sayF (pth ps k) nm (nth fd j)) ma mc,.bool (sayB (pth ps k) nm (nth fd j))])∧Below W.heap.size W w') fun e w' h=>by
         obtain⟨ma,mc,h1,h2,-⟩:=h;exact⟨ma,mc,h1,h2⟩)
        have HN1:Hid (aAI ps nm (nth fd j) k=(sayB (pth ps k) nm (nth fd j)&&decide (0<(sayF (pth ps k) nm (nth fd j)).needs.length))):=aA0 rfl;have HKN:Hid (aA7 (fun k=>!(aAI ps nm (nth fd j) k)) (k+1)=(!(aAI ps nm (nth fd j) k))):=aA0 (by rw[aA7,HK.out,Bool.true_and])
        have HKF:Hid (aAI ps nm (nth fd j) k=true->code=7):=aA0 fun h=>by
         have h1:qO j=false:=by rw[HQO.out];exact aAJ hkl (by rw[h];rfl)
         rw[HCO3.out,aAJ hjl h1];rfl
        clear hP hnc;generalize nth fd j=nd at*;generalize pth ps k=p at*;generalize sayF p nm nd=g at*;generalize sayB p nm nd=kn at*;obtain⟨gn,gof,gl,gm,gfr,gh,gs,gd⟩:=g;simp only[fval] at HG;simp only at HN1;have HCL:Hid (∀W,Below w0.heap.size w0 W->W.cell? ⟨pb,po+k*2,none⟩=some (.string p.name)∧W.cell? ⟨pb,po+k*2+1,none⟩=some (.slice ta p.types.length tc)∧W.cell? ⟨w.heap.size,7,none⟩=some (.slice (some ⟨nb,no,none⟩) fd.length nc)∧W.cell? ⟨nb,no+j,none⟩=some (.string nd)):=aA0 fun W hW=>⟨(hW.cell (aAA q0)).trans q0,(hW.cell (aAA q1)).trans q1,(hW.cell (aAA x7)).trans x7,(hW.cell (aAA q2)).trans q2⟩;clear q0 q1 q2 x7;go_wp2_with fail
        go_cut [17,18] (fun r o wx=>∃(fb:Nat) (ma:Option Addr) (mc:Nat),r=.pointer (some ⟨fb,0,none⟩)∧o=.bool kn∧Hid (wx.cell? ⟨fb,0,none⟩=some (.string gn)∧wx.cell? ⟨fb,1,none⟩=some (.string gof)∧wx.cell? ⟨fb,2,none⟩=some (.bool gl)∧wx.cell? ⟨fb,3,none⟩=some (.bool gm)∧wx.cell? ⟨fb,4,none⟩=some (.bool gfr)∧wx.cell? ⟨fb,5,none⟩=some (.bool gh)∧wx.cell? ⟨fb,6,none⟩=some (.bool gs)∧wx.cell? ⟨fb,7,none⟩=some (.slice ma gd.length mc))∧Below w0.heap.size w0 wx)
        case first=>
         refine wp_region_held_drew (S:=(fun w'=>w'.cell? ⟨pb,po+k*2,none⟩=some (.string p.name)∧w'.cell? ⟨pb,po+k*2+1,none⟩=some (.slice ta p.types.length tc)∧w'.cell? ⟨w.heap.size,7,none⟩=some (.slice (some ⟨nb,no,none⟩) fd.length nc)∧w'.cell? ⟨nb,no+j,none⟩=some (.string nd))) (by kernel_rfl) (HCL.out _ (Below.refl _ _).drew) (fun hHeld=>?_)
         have bX:Below w0.heap.size w0 w0.drew:=(Below.refl _ _).drew;generalize w0.drew=wD at*;refine tkH 0 hHeld ?_;refine tkH 1 hHeld ?_;refine tkH 2 hHeld ?_;refine tkH 3 hHeld ?_;refine tkH 4 hHeld ?_;refine tkH 5 hHeld ?_;refine tkH 6 hHeld ?_;refine tkH 7 hHeld ?_;refine tkH 8 hHeld ?_;refine tkH 9 hHeld ?_;refine rdyH [10,14] ?_;refine rcH (fun K hK=>?_) ?_
         ·go_simp
          refine(HG.out wD bX).mono ?_;rintro e wK ⟨ma,mc,rfl,bK⟩;have bX:=bX.trans (bK.mono bX.size);refine hK.out _ _ (HCL.out _ bX) (fun hHeld=>?_);clear hK K;try simp only[Act.put,sIA,sI0,sIS]
          refine tkH 11 hHeld ?_;refine tkH 12 hHeld ?_;refine tkH 13 hHeld ?_;refine rdyH [14] ?_;refine rcH (fun K hK=>?_) AllReadyH.nil;go_simp
          have bE:=aA2 wK (.cells #[.string ⟨#[]⟩,.string ⟨#[]⟩,.bool false,.bool false,.bool false,.bool false,.bool false,.slice none 0 0] 80);have nE:=aA3 (w:=wK) #[.string ⟨#[]⟩,.string ⟨#[]⟩,.bool false,.bool false,.bool false,.bool false,.bool false,.slice none 0 0] 80 rfl;have qE:w0.heap.size<=wK.heap.size:=bX.size;have zE:wK.heap.size<(wK.alloc (.cells #[.string ⟨#[]⟩,.string ⟨#[]⟩,.bool false,.bool false,.bool false,.bool false,.bool false,.slice none 0 0] 80)).heap.size:=by simp
          have bX:=bX.trans (bE.mono bX.size);refine hK.out _ _ (HCL.out _ bX) (fun hHeld=>?_);clear hK K;try simp only[Act.put,sIA,sI0,sIS]
          generalize wK.alloc (.cells #[.string ⟨#[]⟩,.string ⟨#[]⟩,.bool false,.bool false,.bool false,.bool false,.bool false,.slice none 0 0] 80)=wE at*;refine rdyH [15] ?_;refine rcH (fun K hK=>?_) AllReadyH.nil;obtain⟨y0,g0⟩:=aA1 nE 0 (by simp)
          obtain⟨y1,g1⟩:=aA1 nE 1 (by simp)
          obtain⟨y2,g2⟩:=aA1 nE 2 (by simp)
          obtain⟨y3,g3⟩:=aA1 nE 3 (by simp)
          obtain⟨y4,g4⟩:=aA1 nE 4 (by simp)
          obtain⟨y5,g5⟩:=aA1 nE 5 (by simp)
          obtain⟨y6,g6⟩:=aA1 nE 6 (by simp)
          obtain⟨y7,g7⟩:=aA1 nE 7 (by simp)
          go_simp
          refine hK.out _ _ (HCL.out _ (aAH bX qE _ _ _ _ _ _ _ _)) (fun hHeld=>?_);clear hK K;try simp only[Act.put,sIA,sI0,sIS]
          refine tkH 16 hHeld ?_;refine wpAnyH_done (by kernel_rfl) ?_ _
          go_wp2_with fail
          go_meet
          case rel=>
           have HX8:=aA0 (aBQ nE rfl (.string gn) (.string gof) (.bool gl) (.bool gm) (.bool gfr) (.bool gh) (.bool gs) (.slice ma gd.length mc) _ rfl);exact⟨_,ma,mc,rfl,rfl,HX8,aAH bX qE _ _ _ _ _ _ _ _⟩
         refine rcH (fun K hK=>?_) AllReadyH.nil;go_simp
         have bE:=aA2 wD (.cells #[.string ⟨#[]⟩,.string ⟨#[]⟩,.bool false,.bool false,.bool false,.bool false,.bool false,.slice none 0 0] 80);have nE:=aA3 (w:=wD) #[.string ⟨#[]⟩,.string ⟨#[]⟩,.bool false,.bool false,.bool false,.bool false,.bool false,.slice none 0 0] 80 rfl;have qE:w0.heap.size<=wD.heap.size:=bX.size;have zE:wD.heap.size<(wD.alloc (.cells #[.string ⟨#[]⟩,.string ⟨#[]⟩,.bool false,.bool false,.bool false,.bool false,.bool false,.slice none 0 0] 80)).heap.size:=by simp
         have bX:=bX.trans (bE.mono bX.size);refine hK.out _ _ (HCL.out _ bX) (fun hHeld=>?_);clear hK K;try simp only[Act.put,sIA,sI0,sIS]
         generalize wD.alloc (.cells #[.string ⟨#[]⟩,.string ⟨#[]⟩,.bool false,.bool false,.bool false,.bool false,.bool false,.slice none 0 0] 80)=wE at*;refine rdyH [10] ?_;refine rcH (fun K hK=>?_) AllReadyH.nil;go_simp
         refine(HG.out wE bX).mono ?_;rintro e wK ⟨ma,mc,rfl,bK⟩;have bX:=bX.trans (bK.mono bX.size);have nE:=(bK.block _ zE).trans nE;have zE:=Nat.lt_of_lt_of_le zE bK.size;refine hK.out _ _ (HCL.out _ bX) (fun hHeld=>?_);clear hK K;try simp only[Act.put,sIA,sI0,sIS]
         refine tkH 11 hHeld ?_;refine tkH 12 hHeld ?_;refine tkH 13 hHeld ?_;refine rdyH [15] ?_;refine rcH (fun K hK=>?_) AllReadyH.nil;obtain⟨y0,g0⟩:=aA1 nE 0 (by simp)
         obtain⟨y1,g1⟩:=aA1 nE 1 (by simp)
         obtain⟨y2,g2⟩:=aA1 nE 2 (by simp)
         obtain⟨y3,g3⟩:=aA1 nE 3 (by simp)
         obtain⟨y4,g4⟩:=aA1 nE 4 (by simp)
         obtain⟨y5,g5⟩:=aA1 nE 5 (by simp)
         obtain⟨y6,g6⟩:=aA1 nE 6 (by simp)
         obtain⟨y7,g7⟩:=aA1 nE 7 (by simp)
         go_simp
         refine hK.out _ _ (HCL.out _ (aAH bX qE _ _ _ _ _ _ _ _)) (fun hHeld=>?_);clear hK K;try simp only[Act.put,sIA,sI0,sIS]
         refine tkH 16 hHeld ?_;refine wpAnyH_done (by kernel_rfl) ?_ _
         go_wp2_with fail
         go_meet
         case rel=>
          have HX8:=aA0 (aBQ nE rfl (.string gn) (.string gof) (.bool gl) (.bool gm) (.bool gfr) (.bool gh) (.bool gs) (.slice ma gd.length mc) _ rfl);exact⟨_,ma,mc,rfl,rfl,HX8,aAH bX qE _ _ _ _ _ _ _ _⟩
        case rest=>
        obtain⟨fb,ma,mc,rfl,rfl,HB8,bx⟩:=hcut;obtain⟨wx,rfl⟩:∃x,x=wc:=⟨wc,rfl⟩;have bXx:=hb4.trans (bx.mono zb4);cases kn
        ·have HK1:=aA0 (show aA7 (fun k=>!(aAI ps nm nd k)) (k+1)=true by rw[HKN.out,HN1.out];rfl)
         go_wp2_with fail
         go_roundw
         case measure=>simp[intOf];omega
         case rel=>exact⟨k+1,by omega,by go_num,HK1,bXx⟩
        obtain⟨-,-,-,-,-,-,-,y7⟩:=HB8.out;by_cases hgd:gd.length=0
        ·have HK1:=aA0 (show aA7 (fun k=>!(aAI ps nm nd k)) (k+1)=true by rw[HKN.out,HN1.out];simp[hgd])
         rw[hgd] at y7;go_wp2_with fail
         go_roundw
         case measure=>simp[intOf];omega
         case rel=>exact⟨k+1,by omega,by go_num,HK1,bXx⟩
        ·have hg0:0<gd.length:=by omega
         have hg1:(0:Int)<(gd.length:Int):=by omega
         have HE:=aA0 (HKF.out (by rw[HN1.out];simp[hg0]))
         go_wp2_with fail
         go_ret
         exact⟨by rw[HE.out]<;>rfl,(HX.out wx bXx).2⟩
   ·have HCO2:Hid (code=if 0<cn∧1<ol then 7 else if aC4 ps nm ⟨fn,fo,fl,fm,ff,fh,fs,fd⟩=false then 7 else 0):=aA0 (by rw[HCO1.out,if_neg fun h=>by rw[hkq] at h;cases h.2.1])
    clear x0 HCO1;go_wp2_with fail
    refine wp_region_held_drew (S:=(fun w'=>w'.cell? ⟨w.heap.size,0,none⟩=some (.string fn))) (by kernel_rfl) (HX.out _ hbD).1.1 (fun hHeld=>?_)
    refine tkH 0 hHeld ?_;refine tkH 1 hHeld ?_;refine tkH 2 hHeld ?_;refine tkH 3 hHeld ?_;refine tkH 4 hHeld ?_;refine tkH 5 hHeld ?_;refine tkH 6 hHeld ?_;refine tkH 7 hHeld ?_;refine rdyH [8] (rcH (fun K hK=>?_) AllReadyH.nil);go_simp
    refine(HKE.out _ (HX.out _ hbD).2).mono ?_;rintro e wz ⟨rfl,hbk⟩;have hbz:=hbD.trans (hbk.mono hbD.size);refine hK.out _ _ (HX.out wz hbz).1.1 (fun hHeld=>?_);clear hK K;try simp only[Act.put,sIA,sI0,sIS]
    refine tkH 9 hHeld ?_;refine tkH 10 hHeld ?_;refine tkH 11 hHeld ?_;refine tnH 12 hHeld ?_;refine tnH 13 hHeld ?_;refine tnH 14 hHeld ?_;refine tnH 15 hHeld ?_;refine tkH 16 hHeld ?_;refine wpAnyH_done (by kernel_rfl) ?_ _
    by_cases hcn0:0<cn∧1<ol
    ·have HE:Hid (code=7):=aA0 (by rw[HCO2.out,if_pos hcn0])
     have hc0:=hcn0.1;have hc1:=hcn0.2;have hc0i:(0:Int)<(cn:Int):=by omega
     have hc1i:(1:Int)<(ol:Int):=by omega
     go_wp2_with fail
     go_ret
     exact⟨by rw[HE.out]<;>rfl,(HX.out wz hbz).2⟩
    have HCO3:Hid (code=if aA7 (fun i=>aA7 (fun k=>!(aAI ps nm (nth fd i) k)) ps.length) fd.length=false then 7 else 0):=aA0 (by rw[HCO2.out,if_neg hcn0,HPN.out])
    have hcnx:cn=0∨(0<cn∧¬1<ol):=by
     rcases Nat.eq_zero_or_pos cn with h| h
     ·exact Or.inl h
     ·exact Or.inr ⟨h,fun h2=>hcn0 ⟨h,h2⟩⟩
    clear HCO2;obtain⟨qO,hqO⟩:∃qO,qO=fun i=>aA7 (fun k=>!(aAI ps nm (nth fd i) k)) ps.length:=⟨_,rfl⟩;rw[<-hqO] at HCO3;have HQO:Hid (∀i,qO i=aA7 (fun k=>!(aAI ps nm (nth fd i) k)) ps.length):=aA0 fun i=>by rw[hqO]
    clear hqO hcn0;rcases hcnx with hcz| ⟨hcz,hoz⟩
    all_goals (try (exfalso;omega))
    all_goals
     (try subst hcz)
     (try (have hczi:(0:Int)<(cn:Int):=by omega))
     (try (have hozi:¬(1:Int)<(ol:Int):=by omega))
     go_wp2_with fail
     go_loopw [15] (fun i wr=>∃j:Nat,j<=fd.length∧i=.int .i64 j∧Hid (aA7 qO j=true)∧Below X.heap.size X wr) (fun i _=>fd.length- (intOf i).toNat)
     case atStart=>exact⟨0,Nat.zero_le _,rfl,aA0 rfl,hbz⟩
     case round=>
      obtain⟨j,hj,rfl,HJ,hb3⟩:=hrel;obtain⟨w3,rfl⟩:∃x,x=wr:=⟨wr,rfl⟩;obtain⟨⟨-,-,-,-,-,-,-,x7⟩,hbw3⟩:=HX.out w3 hb3;by_cases hjl:j<fd.length
      case neg=>
       have ej:j=fd.length:=by omega
       subst ej;have HE:Hid (code=0):=aA0 (by rw[HCO3.out,HJ.out];rfl)
       go_wp2_with fail
       go_ret
       exact⟨by rw[HE.out]<;>rfl,hbw3⟩
      have hji:(j:Int)<(fd.length:Int):=by omega
      go_wp2_with fail
      clear x7;go_loopw [16] (fun i wr=>∃k:Nat,k<=ps.length∧i=.int .i64 k∧Hid (aA7 (fun k=>!(aAI ps nm (nth fd j) k)) k=true)∧Below X.heap.size X wr) (fun i _=>ps.length- (intOf i).toNat)
      case atStart=>exact⟨0,Nat.zero_le _,rfl,aA0 rfl,hb3⟩
      case round=>
       obtain⟨k,hk2,rfl,HK,hb4⟩:=hrel;obtain⟨w0,rfl⟩:∃x,x=wr:=⟨wr,rfl⟩;have zb4:=hb4.size;obtain⟨⟨-,-,-,-,-,-,-,x7⟩,hbw4⟩:=HX.out w0 hb4;by_cases hkl:k<ps.length
       case neg=>
        have ek:k=ps.length:=by omega
        subst ek;have HJ1:Hid (aA7 qO (j+1)=true):=aA0 (by rw[aA7,HJ.out,HQO.out,HK.out];rfl)
        clear x7;go_wp2_with fail
        go_roundw
        case measure=>simp[intOf];omega
        case rel=>exact⟨j+1,by omega,by go_num,HJ1,hb4⟩
       have hkli:(k:Int)<(ps.length:Int):=by omega
       obtain⟨pb,po,ta,tc,rfl,hpB,q0,q1,hP⟩:=(HR.out.under (hbw4.mono HBL.out)).at k hkl;obtain⟨nb,no,rfl,hnB,hnc⟩:=(HNS.out.under (hbw4.mono HBL.out)).1 (by intro e;rw[e] at hjl;simp at hjl)
       have q2:=hnc j hjl;have HG:=aA0 (fun W (hW:Below w0.heap.size w0 W)=>(aDH (pth ps k) nm (nth fd j) W B _ (hP.under (hW.mono (by have:=HBL.out;have:=hbw4.size;omega))) (by have:=HBL.out;have:=hW.size;have:=hbw4.size;omega)).mono (R':=fun e w'=>∃(ma:Option Addr) (mc:Nat),e=.returned (.tuple #[fval (sayF (pth ps k) nm (nth fd j)) ma mc,.bool (sayB (pth ps k) nm (nth fd j))])∧Below W.heap.size W w') fun e w' h=>by
        obtain⟨ma,mc,h1,h2,-⟩:=h;exact⟨ma,mc,h1,h2⟩)
       have HN1:Hid (aAI ps nm (nth fd j) k=(sayB (pth ps k) nm (nth fd j)&&decide (0<(sayF (pth ps k) nm (nth fd j)).needs.length))):=aA0 rfl;have HKN:Hid (aA7 (fun k=>!(aAI ps nm (nth fd j) k)) (k+1)=(!(aAI ps nm (nth fd j) k))):=aA0 (by rw[aA7,HK.out,Bool.true_and])
       have HKF:Hid (aAI ps nm (nth fd j) k=true->code=7):=aA0 fun h=>by
        have h1:qO j=false:=by rw[HQO.out];exact aAJ hkl (by rw[h];rfl)
        rw[HCO3.out,aAJ hjl h1];rfl
       clear hP hnc;generalize nth fd j=nd at*;generalize pth ps k=p at*;generalize sayF p nm nd=g at*;generalize sayB p nm nd=kn at*;obtain⟨gn,gof,gl,gm,gfr,gh,gs,gd⟩:=g;simp only[fval] at HG;simp only at HN1;have HCL:Hid (∀W,Below w0.heap.size w0 W->W.cell? ⟨pb,po+k*2,none⟩=some (.string p.name)∧W.cell? ⟨pb,po+k*2+1,none⟩=some (.slice ta p.types.length tc)∧W.cell? ⟨w.heap.size,7,none⟩=some (.slice (some ⟨nb,no,none⟩) fd.length nc)∧W.cell? ⟨nb,no+j,none⟩=some (.string nd)):=aA0 fun W hW=>⟨(hW.cell (aAA q0)).trans q0,(hW.cell (aAA q1)).trans q1,(hW.cell (aAA x7)).trans x7,(hW.cell (aAA q2)).trans q2⟩;clear q0 q1 q2 x7;go_wp2_with fail
       go_cut [17,18] (fun r o wx=>∃(fb:Nat) (ma:Option Addr) (mc:Nat),r=.pointer (some ⟨fb,0,none⟩)∧o=.bool kn∧Hid (wx.cell? ⟨fb,0,none⟩=some (.string gn)∧wx.cell? ⟨fb,1,none⟩=some (.string gof)∧wx.cell? ⟨fb,2,none⟩=some (.bool gl)∧wx.cell? ⟨fb,3,none⟩=some (.bool gm)∧wx.cell? ⟨fb,4,none⟩=some (.bool gfr)∧wx.cell? ⟨fb,5,none⟩=some (.bool gh)∧wx.cell? ⟨fb,6,none⟩=some (.bool gs)∧wx.cell? ⟨fb,7,none⟩=some (.slice ma gd.length mc))∧Below w0.heap.size w0 wx)
       case first=>
        refine wp_region_held_drew (S:=(fun w'=>w'.cell? ⟨pb,po+k*2,none⟩=some (.string p.name)∧w'.cell? ⟨pb,po+k*2+1,none⟩=some (.slice ta p.types.length tc)∧w'.cell? ⟨w.heap.size,7,none⟩=some (.slice (some ⟨nb,no,none⟩) fd.length nc)∧w'.cell? ⟨nb,no+j,none⟩=some (.string nd))) (by kernel_rfl) (HCL.out _ (Below.refl _ _).drew) (fun hHeld=>?_)
        have bX:Below w0.heap.size w0 w0.drew:=(Below.refl _ _).drew;generalize w0.drew=wD at*;refine tkH 0 hHeld ?_;refine tkH 1 hHeld ?_;refine tkH 2 hHeld ?_;refine tkH 3 hHeld ?_;refine tkH 4 hHeld ?_;refine tkH 5 hHeld ?_;refine tkH 6 hHeld ?_;refine tkH 7 hHeld ?_;refine tkH 8 hHeld ?_;refine tkH 9 hHeld ?_;refine rdyH [10,14] ?_;refine rcH (fun K hK=>?_) ?_
        ·go_simp
         refine(HG.out wD bX).mono ?_;rintro e wK ⟨ma,mc,rfl,bK⟩;have bX:=bX.trans (bK.mono bX.size);refine hK.out _ _ (HCL.out _ bX) (fun hHeld=>?_);clear hK K;try simp only[Act.put,sIA,sI0,sIS]
         refine tkH 11 hHeld ?_;refine tkH 12 hHeld ?_;refine tkH 13 hHeld ?_;refine rdyH [14] ?_;refine rcH (fun K hK=>?_) AllReadyH.nil;go_simp
         have bE:=aA2 wK (.cells #[.string ⟨#[]⟩,.string ⟨#[]⟩,.bool false,.bool false,.bool false,.bool false,.bool false,.slice none 0 0] 80);have nE:=aA3 (w:=wK) #[.string ⟨#[]⟩,.string ⟨#[]⟩,.bool false,.bool false,.bool false,.bool false,.bool false,.slice none 0 0] 80 rfl;have qE:w0.heap.size<=wK.heap.size:=bX.size;have zE:wK.heap.size<(wK.alloc (.cells #[.string ⟨#[]⟩,.string ⟨#[]⟩,.bool false,.bool false,.bool false,.bool false,.bool false,.slice none 0 0] 80)).heap.size:=by simp
         have bX:=bX.trans (bE.mono bX.size);refine hK.out _ _ (HCL.out _ bX) (fun hHeld=>?_);clear hK K;try simp only[Act.put,sIA,sI0,sIS]
         generalize wK.alloc (.cells #[.string ⟨#[]⟩,.string ⟨#[]⟩,.bool false,.bool false,.bool false,.bool false,.bool false,.slice none 0 0] 80)=wE at*;refine rdyH [15] ?_;refine rcH (fun K hK=>?_) AllReadyH.nil;obtain⟨y0,g0⟩:=aA1 nE 0 (by simp)
         obtain⟨y1,g1⟩:=aA1 nE 1 (by simp)
         obtain⟨y2,g2⟩:=aA1 nE 2 (by simp)
         obtain⟨y3,g3⟩:=aA1 nE 3 (by simp)
         obtain⟨y4,g4⟩:=aA1 nE 4 (by simp)
         obtain⟨y5,g5⟩:=aA1 nE 5 (by simp)
         obtain⟨y6,g6⟩:=aA1 nE 6 (by simp)
         obtain⟨y7,g7⟩:=aA1 nE 7 (by simp)
         go_simp
         refine hK.out _ _ (HCL.out _ (aAH bX qE _ _ _ _ _ _ _ _)) (fun hHeld=>?_);clear hK K;try simp only[Act.put,sIA,sI0,sIS]
         refine tkH 16 hHeld ?_;refine wpAnyH_done (by kernel_rfl) ?_ _
         go_wp2_with fail
         go_meet
         case rel=>
          have HX8:=aA0 (aBQ nE rfl (.string gn) (.string gof) (.bool gl) (.bool gm) (.bool gfr) (.bool gh) (.bool gs) (.slice ma gd.length mc) _ rfl);exact⟨_,ma,mc,rfl,rfl,HX8,aAH bX qE _ _ _ _ _ _ _ _⟩
        refine rcH (fun K hK=>?_) AllReadyH.nil;go_simp
        have bE:=aA2 wD (.cells #[.string ⟨#[]⟩,.string ⟨#[]⟩,.bool false,.bool false,.bool false,.bool false,.bool false,.slice none 0 0] 80);have nE:=aA3 (w:=wD) #[.string ⟨#[]⟩,.string ⟨#[]⟩,.bool false,.bool false,.bool false,.bool false,.bool false,.slice none 0 0] 80 rfl;have qE:w0.heap.size<=wD.heap.size:=bX.size;have zE:wD.heap.size<(wD.alloc (.cells #[.string ⟨#[]⟩,.string ⟨#[]⟩,.bool false,.bool false,.bool false,.bool false,.bool false,.slice none 0 0] 80)).heap.size:=by simp
        have bX:=bX.trans (bE.mono bX.size);refine hK.out _ _ (HCL.out _ bX) (fun hHeld=>?_);clear hK K;try simp only[Act.put,sIA,sI0,sIS]
        generalize wD.alloc (.cells #[.string ⟨#[]⟩,.string ⟨#[]⟩,.bool false,.bool false,.bool false,.bool false,.bool false,.slice none 0 0] 80)=wE at*;refine rdyH [10] ?_;refine rcH (fun K hK=>?_) AllReadyH.nil;go_simp
        refine(HG.out wE bX).mono ?_;rintro e wK ⟨ma,mc,rfl,bK⟩;have bX:=bX.trans (bK.mono bX.size);have nE:=(bK.block _ zE).trans nE;have zE:=Nat.lt_of_lt_of_le zE bK.size;refine hK.out _ _ (HCL.out _ bX) (fun hHeld=>?_);clear hK K;try simp only[Act.put,sIA,sI0,sIS]
        refine tkH 11 hHeld ?_;refine tkH 12 hHeld ?_;refine tkH 13 hHeld ?_;refine rdyH [15] ?_;refine rcH (fun K hK=>?_) AllReadyH.nil;obtain⟨y0,g0⟩:=aA1 nE 0 (by simp)
        obtain⟨y1,g1⟩:=aA1 nE 1 (by simp)
        obtain⟨y2,g2⟩:=aA1 nE 2 (by simp)
        obtain⟨y3,g3⟩:=aA1 nE 3 (by simp)
        obtain⟨y4,g4⟩:=aA1 nE 4 (by simp)
        obtain⟨y5,g5⟩:=aA1 nE 5 (by simp)
        obtain⟨y6,g6⟩:=aA1 nE 6 (by simp)
        obtain⟨y7,g7⟩:=aA1 nE 7 (by simp)
        go_simp
        refine hK.out _ _ (HCL.out _ (aAH bX qE _ _ _ _ _ _ _ _)) (fun hHeld=>?_);clear hK K;try simp only[Act.put,sIA,sI0,sIS]
        refine tkH 16 hHeld ?_;refine wpAnyH_done (by kernel_rfl) ?_ _
        go_wp2_with fail
        go_meet
        case rel=>
         have HX8:=aA0 (aBQ nE rfl (.string gn) (.string gof) (.bool gl) (.bool gm) (.bool gfr) (.bool gh) (.bool gs) (.slice ma gd.length mc) _ rfl);exact⟨_,ma,mc,rfl,rfl,HX8,aAH bX qE _ _ _ _ _ _ _ _⟩
       case rest=>
       obtain⟨fb,ma,mc,rfl,rfl,HB8,bx⟩:=hcut;obtain⟨wx,rfl⟩:∃x,x=wc:=⟨wc,rfl⟩;have bXx:=hb4.trans (bx.mono zb4);cases kn
       ·have HK1:=aA0 (show aA7 (fun k=>!(aAI ps nm nd k)) (k+1)=true by rw[HKN.out,HN1.out];rfl)
        go_wp2_with fail
        go_roundw
        case measure=>simp[intOf];omega
        case rel=>exact⟨k+1,by omega,by go_num,HK1,bXx⟩
       obtain⟨-,-,-,-,-,-,-,y7⟩:=HB8.out;by_cases hgd:gd.length=0
       ·have HK1:=aA0 (show aA7 (fun k=>!(aAI ps nm nd k)) (k+1)=true by rw[HKN.out,HN1.out];simp[hgd])
        rw[hgd] at y7;go_wp2_with fail
        go_roundw
        case measure=>simp[intOf];omega
        case rel=>exact⟨k+1,by omega,by go_num,HK1,bXx⟩
       ·have hg0:0<gd.length:=by omega
        have hg1:(0:Int)<(gd.length:Int):=by omega
        have HE:=aA0 (HKF.out (by rw[HN1.out];simp[hg0]))
        go_wp2_with fail
        go_ret
        exact⟨by rw[HE.out]<;>rfl,(HX.out wx bXx).2⟩
  ·have e1:ol=1:=by omega
   subst e1;have HCO2:Hid (code=if 0<cn∧1<1 then 7 else if aC4 ps nm ⟨fn,fo,fl,fm,ff,fh,fs,fd⟩=false then 7 else 0):=aA0 (by rw[HCO1.out,if_neg fun h=>h1o h.1])
   clear x0 HCO1 h0i;go_wp2_with fail
   refine wp_region_held_drew (S:=(fun w'=>w'.cell? ⟨w.heap.size,0,none⟩=some (.string fn))) (by kernel_rfl) (HX.out _ hbD).1.1 (fun hHeld=>?_)
   refine tkH 0 hHeld ?_;refine tkH 1 hHeld ?_;refine tkH 2 hHeld ?_;refine tkH 3 hHeld ?_;refine tnH 4 hHeld ?_;refine tnH 5 hHeld ?_;refine tnH 6 hHeld ?_;refine tnH 7 hHeld ?_;refine tnH 8 hHeld ?_;refine tnH 9 hHeld ?_;refine tkH 10 hHeld ?_;refine tkH 11 hHeld ?_;refine tnH 12 hHeld ?_;refine tnH 13 hHeld ?_;refine tnH 14 hHeld ?_;refine tnH 15 hHeld ?_;refine tkH 16 hHeld ?_;refine wpAnyH_done (by kernel_rfl) ?_ _
   obtain⟨wz,hwz⟩:∃wz,wz=w0.drew:=⟨_,rfl⟩;rw[<-hwz] at hbD ⊢;have hbz:=hbD;clear hwz;have HCO3:Hid (code=if aA7 (fun i=>aA7 (fun k=>!(aAI ps nm (nth fd i) k)) ps.length) fd.length=false then 7 else 0):=aA0 (by rw[HCO2.out,if_neg (fun h=>absurd h.2 (by omega)),HPN.out])
   have hcnx:cn=0∨0<cn:=Nat.eq_zero_or_pos cn;clear HCO2;obtain⟨qO,hqO⟩:∃qO,qO=fun i=>aA7 (fun k=>!(aAI ps nm (nth fd i) k)) ps.length:=⟨_,rfl⟩;rw[<-hqO] at HCO3;have HQO:Hid (∀i,qO i=aA7 (fun k=>!(aAI ps nm (nth fd i) k)) ps.length):=aA0 fun i=>by rw[hqO]
   clear hqO;rcases hcnx with hcz| hcz
   all_goals
    (try subst hcz)
    (try (have hczi:(0:Int)<(cn:Int):=by omega))
    go_wp2_with fail
    go_loopw [15] (fun i wr=>∃j:Nat,j<=fd.length∧i=.int .i64 j∧Hid (aA7 qO j=true)∧Below X.heap.size X wr) (fun i _=>fd.length- (intOf i).toNat)
    case atStart=>exact⟨0,Nat.zero_le _,rfl,aA0 rfl,hbz⟩
    case round=>
     obtain⟨j,hj,rfl,HJ,hb3⟩:=hrel;obtain⟨w3,rfl⟩:∃x,x=wr:=⟨wr,rfl⟩;obtain⟨⟨-,-,-,-,-,-,-,x7⟩,hbw3⟩:=HX.out w3 hb3;by_cases hjl:j<fd.length
     case neg=>
      have ej:j=fd.length:=by omega
      subst ej;have HE:Hid (code=0):=aA0 (by rw[HCO3.out,HJ.out];rfl)
      go_wp2_with fail
      go_ret
      exact⟨by rw[HE.out]<;>rfl,hbw3⟩
     have hji:(j:Int)<(fd.length:Int):=by omega
     go_wp2_with fail
     clear x7;go_loopw [16] (fun i wr=>∃k:Nat,k<=ps.length∧i=.int .i64 k∧Hid (aA7 (fun k=>!(aAI ps nm (nth fd j) k)) k=true)∧Below X.heap.size X wr) (fun i _=>ps.length- (intOf i).toNat)
     case atStart=>exact⟨0,Nat.zero_le _,rfl,aA0 rfl,hb3⟩
     case round=>
      obtain⟨k,hk2,rfl,HK,hb4⟩:=hrel;obtain⟨w0,rfl⟩:∃x,x=wr:=⟨wr,rfl⟩;have zb4:=hb4.size;obtain⟨⟨-,-,-,-,-,-,-,x7⟩,hbw4⟩:=HX.out w0 hb4;by_cases hkl:k<ps.length
      case neg=>
       have ek:k=ps.length:=by omega
       subst ek;have HJ1:Hid (aA7 qO (j+1)=true):=aA0 (by rw[aA7,HJ.out,HQO.out,HK.out];rfl)
       clear x7;go_wp2_with fail
       go_roundw
       case measure=>simp[intOf];omega
       case rel=>exact⟨j+1,by omega,by go_num,HJ1,hb4⟩
      have hkli:(k:Int)<(ps.length:Int):=by omega
      obtain⟨pb,po,ta,tc,rfl,hpB,q0,q1,hP⟩:=(HR.out.under (hbw4.mono HBL.out)).at k hkl;obtain⟨nb,no,rfl,hnB,hnc⟩:=(HNS.out.under (hbw4.mono HBL.out)).1 (by intro e;rw[e] at hjl;simp at hjl)
      have q2:=hnc j hjl;have HG:=aA0 (fun W (hW:Below w0.heap.size w0 W)=>(aDH (pth ps k) nm (nth fd j) W B _ (hP.under (hW.mono (by have:=HBL.out;have:=hbw4.size;omega))) (by have:=HBL.out;have:=hW.size;have:=hbw4.size;omega)).mono (R':=fun e w'=>∃(ma:Option Addr) (mc:Nat),e=.returned (.tuple #[fval (sayF (pth ps k) nm (nth fd j)) ma mc,.bool (sayB (pth ps k) nm (nth fd j))])∧Below W.heap.size W w') fun e w' h=>by
       obtain⟨ma,mc,h1,h2,-⟩:=h;exact⟨ma,mc,h1,h2⟩)
      have HN1:Hid (aAI ps nm (nth fd j) k=(sayB (pth ps k) nm (nth fd j)&&decide (0<(sayF (pth ps k) nm (nth fd j)).needs.length))):=aA0 rfl;have HKN:Hid (aA7 (fun k=>!(aAI ps nm (nth fd j) k)) (k+1)=(!(aAI ps nm (nth fd j) k))):=aA0 (by rw[aA7,HK.out,Bool.true_and])
      have HKF:Hid (aAI ps nm (nth fd j) k=true->code=7):=aA0 fun h=>by
       have h1:qO j=false:=by rw[HQO.out];exact aAJ hkl (by rw[h];rfl)
       rw[HCO3.out,aAJ hjl h1];rfl
      clear hP hnc;generalize nth fd j=nd at*;generalize pth ps k=p at*;generalize sayF p nm nd=g at*;generalize sayB p nm nd=kn at*;obtain⟨gn,gof,gl,gm,gfr,gh,gs,gd⟩:=g;simp only[fval] at HG;simp only at HN1;have HCL:Hid (∀W,Below w0.heap.size w0 W->W.cell? ⟨pb,po+k*2,none⟩=some (.string p.name)∧W.cell? ⟨pb,po+k*2+1,none⟩=some (.slice ta p.types.length tc)∧W.cell? ⟨w.heap.size,7,none⟩=some (.slice (some ⟨nb,no,none⟩) fd.length nc)∧W.cell? ⟨nb,no+j,none⟩=some (.string nd)):=aA0 fun W hW=>⟨(hW.cell (aAA q0)).trans q0,(hW.cell (aAA q1)).trans q1,(hW.cell (aAA x7)).trans x7,(hW.cell (aAA q2)).trans q2⟩;clear q0 q1 q2 x7;go_wp2_with fail
      go_cut [17,18] (fun r o wx=>∃(fb:Nat) (ma:Option Addr) (mc:Nat),r=.pointer (some ⟨fb,0,none⟩)∧o=.bool kn∧Hid (wx.cell? ⟨fb,0,none⟩=some (.string gn)∧wx.cell? ⟨fb,1,none⟩=some (.string gof)∧wx.cell? ⟨fb,2,none⟩=some (.bool gl)∧wx.cell? ⟨fb,3,none⟩=some (.bool gm)∧wx.cell? ⟨fb,4,none⟩=some (.bool gfr)∧wx.cell? ⟨fb,5,none⟩=some (.bool gh)∧wx.cell? ⟨fb,6,none⟩=some (.bool gs)∧wx.cell? ⟨fb,7,none⟩=some (.slice ma gd.length mc))∧Below w0.heap.size w0 wx)
      case first=>
       refine wp_region_held_drew (S:=(fun w'=>w'.cell? ⟨pb,po+k*2,none⟩=some (.string p.name)∧w'.cell? ⟨pb,po+k*2+1,none⟩=some (.slice ta p.types.length tc)∧w'.cell? ⟨w.heap.size,7,none⟩=some (.slice (some ⟨nb,no,none⟩) fd.length nc)∧w'.cell? ⟨nb,no+j,none⟩=some (.string nd))) (by kernel_rfl) (HCL.out _ (Below.refl _ _).drew) (fun hHeld=>?_)
       have bX:Below w0.heap.size w0 w0.drew:=(Below.refl _ _).drew;generalize w0.drew=wD at*;refine tkH 0 hHeld ?_;refine tkH 1 hHeld ?_;refine tkH 2 hHeld ?_;refine tkH 3 hHeld ?_;refine tkH 4 hHeld ?_;refine tkH 5 hHeld ?_;refine tkH 6 hHeld ?_;refine tkH 7 hHeld ?_;refine tkH 8 hHeld ?_;refine tkH 9 hHeld ?_;refine rdyH [10,14] ?_;refine rcH (fun K hK=>?_) ?_
       ·go_simp
        refine(HG.out wD bX).mono ?_;rintro e wK ⟨ma,mc,rfl,bK⟩;have bX:=bX.trans (bK.mono bX.size);refine hK.out _ _ (HCL.out _ bX) (fun hHeld=>?_);clear hK K;try simp only[Act.put,sIA,sI0,sIS]
        refine tkH 11 hHeld ?_;refine tkH 12 hHeld ?_;refine tkH 13 hHeld ?_;refine rdyH [14] ?_;refine rcH (fun K hK=>?_) AllReadyH.nil;go_simp
        have bE:=aA2 wK (.cells #[.string ⟨#[]⟩,.string ⟨#[]⟩,.bool false,.bool false,.bool false,.bool false,.bool false,.slice none 0 0] 80);have nE:=aA3 (w:=wK) #[.string ⟨#[]⟩,.string ⟨#[]⟩,.bool false,.bool false,.bool false,.bool false,.bool false,.slice none 0 0] 80 rfl;have qE:w0.heap.size<=wK.heap.size:=bX.size;have zE:wK.heap.size<(wK.alloc (.cells #[.string ⟨#[]⟩,.string ⟨#[]⟩,.bool false,.bool false,.bool false,.bool false,.bool false,.slice none 0 0] 80)).heap.size:=by simp
        have bX:=bX.trans (bE.mono bX.size);refine hK.out _ _ (HCL.out _ bX) (fun hHeld=>?_);clear hK K;try simp only[Act.put,sIA,sI0,sIS]
        generalize wK.alloc (.cells #[.string ⟨#[]⟩,.string ⟨#[]⟩,.bool false,.bool false,.bool false,.bool false,.bool false,.slice none 0 0] 80)=wE at*;refine rdyH [15] ?_;refine rcH (fun K hK=>?_) AllReadyH.nil;obtain⟨y0,g0⟩:=aA1 nE 0 (by simp)
        obtain⟨y1,g1⟩:=aA1 nE 1 (by simp)
        obtain⟨y2,g2⟩:=aA1 nE 2 (by simp)
        obtain⟨y3,g3⟩:=aA1 nE 3 (by simp)
        obtain⟨y4,g4⟩:=aA1 nE 4 (by simp)
        obtain⟨y5,g5⟩:=aA1 nE 5 (by simp)
        obtain⟨y6,g6⟩:=aA1 nE 6 (by simp)
        obtain⟨y7,g7⟩:=aA1 nE 7 (by simp)
        go_simp
        refine hK.out _ _ (HCL.out _ (aAH bX qE _ _ _ _ _ _ _ _)) (fun hHeld=>?_);clear hK K;try simp only[Act.put,sIA,sI0,sIS]
        refine tkH 16 hHeld ?_;refine wpAnyH_done (by kernel_rfl) ?_ _
        go_wp2_with fail
        go_meet
        case rel=>
         have HX8:=aA0 (aBQ nE rfl (.string gn) (.string gof) (.bool gl) (.bool gm) (.bool gfr) (.bool gh) (.bool gs) (.slice ma gd.length mc) _ rfl);exact⟨_,ma,mc,rfl,rfl,HX8,aAH bX qE _ _ _ _ _ _ _ _⟩
       refine rcH (fun K hK=>?_) AllReadyH.nil;go_simp
       have bE:=aA2 wD (.cells #[.string ⟨#[]⟩,.string ⟨#[]⟩,.bool false,.bool false,.bool false,.bool false,.bool false,.slice none 0 0] 80);have nE:=aA3 (w:=wD) #[.string ⟨#[]⟩,.string ⟨#[]⟩,.bool false,.bool false,.bool false,.bool false,.bool false,.slice none 0 0] 80 rfl;have qE:w0.heap.size<=wD.heap.size:=bX.size;have zE:wD.heap.size<(wD.alloc (.cells #[.string ⟨#[]⟩,.string ⟨#[]⟩,.bool false,.bool false,.bool false,.bool false,.bool false,.slice none 0 0] 80)).heap.size:=by simp
       have bX:=bX.trans (bE.mono bX.size);refine hK.out _ _ (HCL.out _ bX) (fun hHeld=>?_);clear hK K;try simp only[Act.put,sIA,sI0,sIS]
       generalize wD.alloc (.cells #[.string ⟨#[]⟩,.string ⟨#[]⟩,.bool false,.bool false,.bool false,.bool false,.bool false,.slice none 0 0] 80)=wE at*;refine rdyH [10] ?_;refine rcH (fun K hK=>?_) AllReadyH.nil;go_simp
       refine(HG.out wE bX).mono ?_;rintro e wK ⟨ma,mc,rfl,bK⟩;have bX:=bX.trans (bK.mono bX.size);have nE:=(bK.block _ zE).trans nE;have zE:=Nat.lt_of_lt_of_le zE bK.size;refine hK.out _ _ (HCL.out _ bX) (fun hHeld=>?_);clear hK K;try simp only[Act.put,sIA,sI0,sIS]
       refine tkH 11 hHeld ?_;refine tkH 12 hHeld ?_;refine tkH 13 hHeld ?_;refine rdyH [15] ?_;refine rcH (fun K hK=>?_) AllReadyH.nil;obtain⟨y0,g0⟩:=aA1 nE 0 (by simp)
       obtain⟨y1,g1⟩:=aA1 nE 1 (by simp)
       obtain⟨y2,g2⟩:=aA1 nE 2 (by simp)
       obtain⟨y3,g3⟩:=aA1 nE 3 (by simp)
       obtain⟨y4,g4⟩:=aA1 nE 4 (by simp)
       obtain⟨y5,g5⟩:=aA1 nE 5 (by simp)
       obtain⟨y6,g6⟩:=aA1 nE 6 (by simp)
       obtain⟨y7,g7⟩:=aA1 nE 7 (by simp)
       go_simp
       refine hK.out _ _ (HCL.out _ (aAH bX qE _ _ _ _ _ _ _ _)) (fun hHeld=>?_);clear hK K;try simp only[Act.put,sIA,sI0,sIS]
       refine tkH 16 hHeld ?_;refine wpAnyH_done (by kernel_rfl) ?_ _
       go_wp2_with fail
       go_meet
       case rel=>
        have HX8:=aA0 (aBQ nE rfl (.string gn) (.string gof) (.bool gl) (.bool gm) (.bool gfr) (.bool gh) (.bool gs) (.slice ma gd.length mc) _ rfl);exact⟨_,ma,mc,rfl,rfl,HX8,aAH bX qE _ _ _ _ _ _ _ _⟩
      case rest=>
      obtain⟨fb,ma,mc,rfl,rfl,HB8,bx⟩:=hcut;obtain⟨wx,rfl⟩:∃x,x=wc:=⟨wc,rfl⟩;have bXx:=hb4.trans (bx.mono zb4);cases kn
      ·have HK1:=aA0 (show aA7 (fun k=>!(aAI ps nm nd k)) (k+1)=true by rw[HKN.out,HN1.out];rfl)
       go_wp2_with fail
       go_roundw
       case measure=>simp[intOf];omega
       case rel=>exact⟨k+1,by omega,by go_num,HK1,bXx⟩
      obtain⟨-,-,-,-,-,-,-,y7⟩:=HB8.out;by_cases hgd:gd.length=0
      ·have HK1:=aA0 (show aA7 (fun k=>!(aAI ps nm nd k)) (k+1)=true by rw[HKN.out,HN1.out];simp[hgd])
       rw[hgd] at y7;go_wp2_with fail
       go_roundw
       case measure=>simp[intOf];omega
       case rel=>exact⟨k+1,by omega,by go_num,HK1,bXx⟩
      ·have hg0:0<gd.length:=by omega
       have hg1:(0:Int)<(gd.length:Int):=by omega
       have HE:=aA0 (HKF.out (by rw[HN1.out];simp[hg0]))
       go_wp2_with fail
       go_ret
       exact⟨by rw[HE.out]<;>rfl,(HX.out wx bXx).2⟩
end Go.Proofs.YtcebpkeiaiiphaaGreatDoor
