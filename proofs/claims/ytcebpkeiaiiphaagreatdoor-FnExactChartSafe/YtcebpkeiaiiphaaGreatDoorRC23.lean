import Derived.Test.YtcebpkeiaiiphaaGreatDoorRC22
set_option linter.unusedSimpArgs false
set_option linter.unusedVariables false
namespace Go.Proofs.YtcebpkeiaiiphaaGreatDoor
open Go.RowKit
attribute [local go_sem] Oper.semAt_some
def GErr(w:World):Prop:=∀g,g<8->∃T v,w.cell? ⟨g,0,none⟩=some (.iface T v)
theorem GErr.on{w w':World}(h:GErr w)(hb:Below w.heap.size w w'):GErr w':=fun g hg=>by
 obtain⟨T,v,e⟩:=h g hg;exact⟨T,v,(hb.cell (aAA e)).trans e⟩
def aD1(ok:Bool)(e:Ending):Prop:=∃ev,e=.returned ev∧(ok=true->ev=.nilIface)∧(ok=false->∃T v,ev=.iface T v)
set_option maxHeartbeats 800000 in
theorem aSA(p:Pt)(ta:Option Addr)(tc bx:Nat)(nm:ByteArray)(w:World)(h:w.cell? ⟨bx,0,none⟩=some (.string nm)):
  Calls Tryz.prog 110 #[.agg #[.string p.name,.slice ta p.types.length tc],.pointer (some ⟨bx,0,none⟩)] w fun e w'=>e=.returned (.bool (p.name.toList==nm.toList))∧Below w.heap.size w w':=by
 have b1:=aA2 w (.cells #[.string p.name,.slice ta p.types.length tc] 46);have n1:=aA3 (w:=w) #[.string p.name,.slice ta p.types.length tc] 46 rfl;have x0:=(aA1 n1 0 (by simp)).1
 simp only[List.getElem_toArray,List.getElem_cons_zero] at x0;have x1:=(b1.cell (aAA h)).trans h;clear n1;go_enter Tryz.func110,Tryz.ntmps110
 go_wp2_with fail
 go_ret
 exact⟨rfl,b1⟩
set_option maxHeartbeats 1600000 in
theorem aK8(ps:List Pt)(n:Nat)(nm:ByteArray)(w:World)(B:Nat)(a:Option Addr)(c bx:Nat)(hR:aAP w (·<B) ps a)(hB:B<=w.heap.size)(hn:n<=ps.length)(h:w.cell? ⟨bx,0,none⟩=some (.string nm)):
  Calls Tryz.prog 143 #[.slice a n c,.func (.func 110) #[] #[.pointer (some ⟨bx,0,none⟩)]] w fun e w'=>e=.returned (.int .i64 (aA9 (fun i=>(pth ps i).name.toList==nm.toList) n))∧Below w.heap.size w w':=by
 have h40:=hR.1;have HR:=aA0 hR;have HBL:=aA0 hB;have HH:=aA0 h;clear hR hB h;go_enter Tryz.func143,Tryz.ntmps143
 go_wp2_with fail
 go_loopw [8] (fun i wr=>∃k:Nat,k<=n∧i=.int .i64 k∧Hid (∀j,j<k->((pth ps j).name.toList==nm.toList)=false)∧Below w.heap.size w wr) (fun i _=>n- (intOf i).toNat)
 case atStart=>exact⟨0,Nat.zero_le _,rfl,aA0 (fun j hj=>by omega),Below.refl _ _⟩
 case round=>
  obtain⟨k,hk,rfl,HN,hb⟩:=hrel;obtain⟨w0,rfl⟩:∃x,x=wr:=⟨wr,rfl⟩;have zb:=hb.size;by_cases hlt:k<n
  case neg=>
   have e:k=n:=by omega
   subst e;have HE:=aA0 (aB3 (p:=fun i=>(pth ps i).name.toList==nm.toList) HN.out);go_wp2_with fail
   go_ret
   exact⟨by rw[HE.out]<;>rfl,hb⟩
  have hki:(k:Int)<(n:Int):=by omega
  obtain⟨pb,po,ta,tc,rfl,hpB,q0,q1,-⟩:=(HR.out.under (hb.mono HBL.out)).at k (by omega)
  have HF:=aA0 (aSA (pth ps k) ta tc bx nm w0 ((hb.cell (aAA HH.out)).trans HH.out));have HHK:Hid (((pth ps k).name.toList==nm.toList)=true->aA9 (fun i=>(pth ps i).name.toList==nm.toList) n=(k:Nat)):=aA0 fun h=>aAX HN.out h hlt;have HX:Hid (((pth ps k).name.toList==nm.toList)=false->∀j,j<k+1->((pth ps j).name.toList==nm.toList)=false):=aA0 fun h j hj=>by
   by_cases e:j=k
   ·subst e;exact h
   ·exact HN.out j (by omega)
  generalize pth ps k=p at*;cases hq:(p.name.toList==nm.toList)
  ·rw[hq] at HF;have HX2:=aA0 (HX.out hq);go_wp2_with fail
   refine HF.out.mono ?_;rintro e w1 ⟨rfl,hb1⟩;have hb01:=hb.trans (hb1.mono zb);go_wp2_with fail
   go_roundw
   case measure=>simp[intOf];omega
   case rel=>exact⟨k+1,by omega,by go_num,HX2,hb01⟩
  ·rw[hq] at HF;have HE:=aA0 (HHK.out hq);go_wp2_with fail
   refine HF.out.mono ?_;rintro e w1 ⟨rfl,hb1⟩;have hb01:=hb.trans (hb1.mono zb);go_wp2_with fail
   go_ret
   exact⟨by rw[HE.out]<;>rfl,hb01⟩
set_option maxHeartbeats 800000 in
theorem aHM(ps:List Pt)(n:Nat)(nm:ByteArray)(w:World)(B:Nat)(a:Option Addr)(c bx:Nat)(hR:aAP w (·<B) ps a)(hB:B<=w.heap.size)(hn:n<=ps.length)(h:w.cell? ⟨bx,0,none⟩=some (.string nm)):
  Calls Tryz.prog 109 #[.slice a n c,.func (.func 110) #[] #[.pointer (some ⟨bx,0,none⟩)]] w fun e w'=>e=.returned (.bool (!(aA7 (fun k=>!((pth ps k).name.toList==nm.toList)) n)))∧Below w.heap.size w w':=by
 have HI:=aA0 (aK8 ps n nm w B a c bx hR hB hn h);clear hR hB h;rcases aA8 (fun i=>(pth ps i).name.toList==nm.toList) n with⟨hx,hall⟩| ⟨k,hx,hk,hpk,-⟩
 ·have HE:Hid (aA7 (fun k=>!((pth ps k).name.toList==nm.toList)) n=true):=aA0 ((aBK _ _).2 fun i hi=>by
   show(!((pth ps i).name.toList==nm.toList))=true;rw[show((pth ps i).name.toList==nm.toList)=false from hall i hi];rfl)
  rw[hx] at HI;clear hall hx;go_enter Tryz.func109,Tryz.ntmps109
  go_wp2_with (go_at_call 143;refine HI.out.mono ?_;rintro e w1 ⟨rfl,hb1⟩)
  go_ret
  exact⟨by rw[HE.out]<;>rfl,hb1⟩
 ·have HE:Hid (aA7 (fun k=>!((pth ps k).name.toList==nm.toList)) n=false):=aA0 (aAJ hk (by show(!((pth ps k).name.toList==nm.toList))=false;rw[show((pth ps k).name.toList==nm.toList)=true from hpk];rfl))
  rw[hx] at HI;clear hx hpk;have hk0:(0:Int)<=(k:Int):=by omega
  have hk1:(k:Int)≥ 0:=hk0;go_enter Tryz.func109,Tryz.ntmps109
  go_wp2_with (go_at_call 143;refine HI.out.mono ?_;rintro e w1 ⟨rfl,hb1⟩)
  go_ret
  exact⟨by rw[HE.out]<;>rfl,hb1⟩
def aDK(ps:List Pt):Bool:=decide (0<ps.length)&&decide (ps.length<=4)&&aA7 (aF3 ps okP) ps.length
set_option maxRecDepth 20000 in
set_option maxHeartbeats 1600000 in
theorem aEY(ps:List Pt)(w:World)(B:Nat)(a:Option Addr)(c:Nat)(hc:ps.length<=c)(hR:aAP w (·<B) ps a)(hB:B<=w.heap.size)(hz:∀i,i<ps.length->szP (pth ps i)<=1048576)(hG:GErr w):
  Calls Tryz.prog 79 #[.slice a ps.length c] w fun e w'=>aD1 (aDK ps) e∧Below w.heap.size w w':=by
 have h40:=hR.1;have HR:=aA0 hR;have HBL:=aA0 hB;have HSZ:=aA0 hz;have HG:=aA0 hG;obtain⟨ok,hok⟩:∃ok,ok=aDK ps:=⟨_,rfl⟩;have HEA:Hid (∀k,k<ps.length->aF3 ps okP k=false->ok=false):=aA0 fun k hk h=>by rw[hok];unfold aDK;rw[aAJ hk h];simp
 have HLN:Hid ((ps.length=0∨4<ps.length)->ok=false):=aA0 fun h=>by
  rw[hok];unfold aDK;rcases h with h| h
  ·simp[h]
  ·have:¬ps.length<=4:=by omega
   simp[this]
 have HALL:Hid (0<ps.length->ps.length<=4->aA7 (aF3 ps okP) ps.length=true->ok=true):=aA0 fun h1 h2 h3=>by
  rw[hok];unfold aDK;rw[h3];simp[h1,h2]
 rw[<-hok];clear hok hR hB hz;by_cases hlen:ps.length=0∨4<ps.length
 ·have HE:=aA0 (HLN.out hlen);obtain⟨T0,v0,g0⟩:=hG 0 (by omega)
  rcases hlen with hl0| hl4
  ·rw[hl0];go_enter Tryz.func79,Tryz.ntmps79
   go_wp2_with fail
   go_ret
   rw[HE.out];exact⟨⟨_,rfl,(fun h=>by cases h),fun _=>⟨T0,v0,rfl⟩⟩,Below.refl _ _⟩
  ·have h0:((ps.length:Int)==0)=false:=beq_eq_false_iff_ne.2 (by omega)
   have h4:(4:Int)<(ps.length:Int):=by omega
   go_enter Tryz.func79,Tryz.ntmps79
   go_wp2_with fail
   go_ret
   rw[HE.out];exact⟨⟨_,rfl,(fun h=>by cases h),fun _=>⟨T0,v0,rfl⟩⟩,Below.refl _ _⟩
 have h0:((ps.length:Int)==0)=false:=beq_eq_false_iff_ne.2 (by omega)
 have h4:¬(4:Int)<(ps.length:Int):=by omega
 have HAL2:=aA0 (HALL.out (by omega) (by omega))
 have hl4:ps.length<=4:=by omega
 clear HALL HLN hlen hG;go_enter Tryz.func79,Tryz.ntmps79
 go_wp2_with fail
 go_loopw [16] (fun i wr=>∃k:Nat,k<=ps.length∧i=.int .i64 k∧Hid (aA7 (aF3 ps okP) k=true)∧Below w.heap.size w wr) (fun i _=>ps.length- (intOf i).toNat)
 case atStart=>exact⟨0,Nat.zero_le _,rfl,aA0 rfl,Below.refl _ _⟩
 case round=>
  obtain⟨k,hk,rfl,HK,hb⟩:=hrel;obtain⟨w0,rfl⟩:∃x,x=wr:=⟨wr,rfl⟩;have zb:=hb.size;by_cases hlt:k<ps.length
  case neg=>
   have ek:k=ps.length:=by omega
   subst ek;have HE:=aA0 (HAL2.out HK.out);go_wp2_with fail
   go_ret
   rw[HE.out];exact⟨⟨_,rfl,fun _=>rfl,fun h=>by cases h⟩,hb⟩
  have hki:(k:Int)<(ps.length:Int):=by omega
  obtain⟨pb,po,ta,tc,rfl,hpB,q0,q1,hP⟩:=(HR.out.under (hb.mono HBL.out)).at k hlt;have HEK:=aA0 (HEA.out k hlt);have HEB:Hid (aF3 ps okP k=(okP (pth ps k)&&aA7 (fun j=>!((pth ps j).name.toList==(pth ps k).name.toList)) k)):=aA0 rfl;have HNX:Hid (aA7 (aF3 ps okP) (k+1)=aF3 ps okP k):=aA0 (by rw[aA7,HK.out,Bool.true_and])
  have bX:=aA2 w0 (.cells #[.string (pth ps k).name,.slice ta (pth ps k).types.length tc] 46);have nX:=aA3 (w:=w0) #[.string (pth ps k).name,.slice ta (pth ps k).types.length tc] 46 rfl;have zX:(w0.alloc (.cells #[.string (pth ps k).name,.slice ta (pth ps k).types.length tc] 46)).heap.size=w0.heap.size+1:=by simp
  have HPC:=aA0 (fun W (hW:Below w0.heap.size w0 W)=>aCR (pth ps k) W B _ (hP.under (hW.mono (by have:=HBL.out;omega))) (by have:=HBL.out;have:=hW.size;omega) (HSZ.out k hlt))
  have HCF:=aA0 (fun W (hW:Below w0.heap.size w0 W) (h:W.cell? ⟨w0.heap.size,0,none⟩=some (.string (pth ps k).name))=>aHM ps k (pth ps k).name W B (some ⟨pb,po,none⟩) c w0.heap.size (HR.out.under ((hb.trans (hW.mono zb)).mono HBL.out)) (by have:=HBL.out;have:=hW.size;omega) hk h)
  obtain⟨okp,hokp⟩:∃okp,okp=okP (pth ps k):=⟨_,rfl⟩;have HPO:=aA0 (fun h=>aFT (pth ps k) (hokp▸h));have HPB:=aA0 (fun h=>aF0 (pth ps k) (hokp▸h));rw[<-hokp] at HEB;clear hP hokp;generalize (pth ps k)=p at*;generalize aFH p=pe at*;generalize aA7 (fun j=>!((pth ps j).name.toList==p.name.toList)) k=alone at*;have HG1:=aA0 (fun W (hW:Below w0.heap.size w0 W)=>(HG.out.on (hb.trans (hW.mono zb))));have x0:=(aA1 nX 0 (by simp)).1
  have x1:=(aA1 nX 1 (by simp)).1
  simp only[List.getElem_toArray,List.getElem_cons_zero,List.getElem_cons_succ] at x0 x1;have hk0i:(0:Int)<=(k:Int):=by omega
  have hkci:(k:Int)<=(c:Int):=by omega
  have hcne:(c=0)=False:=by simp;omega
  cases okp
  ·have HE:=aA0 (HEK.out (by rw[HEB.out];rfl))
   rcases HPB.out rfl with⟨x,hx⟩| ⟨i,x,hx⟩
   all_goals
    rw[hx] at HPC;go_wp2_with (go_at_call 66;refine(HPC.out _ bX).mono ?_;rintro e w1 ⟨rfl,hb1⟩;obtain⟨T1,v1,g1⟩:=HG1.out w1 (bX.trans (hb1.mono bX.size)) 1 (by omega))
    go_ret
    rw[HE.out];exact⟨⟨_,rfl,(fun h=>by cases h),fun _=>⟨_,_,rfl⟩⟩,hb.trans ((bX.trans (hb1.mono bX.size)).mono zb)⟩
  rw[HPO.out rfl] at HPC;cases alone
  ·have HE:=aA0 (HEK.out (by rw[HEB.out];rfl))
   go_wp2_with (first
    |(go_at_call 66;refine(HPC.out _ bX).mono ?_;rintro e w1 ⟨rfl,hb1⟩;have b01:=bX.trans (hb1.mono bX.size);have y0:=(hb1.cell (aAA x0)).trans x0)
    |(go_at_call 109;refine(HCF.out w1 b01 y0).mono ?_;rintro e w2 ⟨rfl,hb2⟩;have b02:=b01.trans (hb2.mono b01.size);obtain⟨T2,v2,g2⟩:=HG1.out w2 b02 2 (by omega)))
   go_ret
   rw[HE.out];exact⟨⟨_,rfl,(fun h=>by cases h),fun _=>⟨_,_,rfl⟩⟩,hb.trans (b02.mono zb)⟩
  ·have HK1:=aA0 (HNX.out.trans (by rw[HEB.out]<;>rfl))
   go_wp2_with (first
    |(go_at_call 66;refine(HPC.out _ bX).mono ?_;rintro e w1 ⟨rfl,hb1⟩;have b01:=bX.trans (hb1.mono bX.size);have y0:=(hb1.cell (aAA x0)).trans x0)
    |(go_at_call 109;refine(HCF.out w1 b01 y0).mono ?_;rintro e w2 ⟨rfl,hb2⟩;have b02:=b01.trans (hb2.mono b01.size)))
   go_roundw
   case measure=>simp[intOf];omega
   case rel=>exact⟨k+1,by omega,by go_num,HK1,hb.trans (b02.mono zb)⟩
theorem aNO.wide{w:World}{lo hi lo' hi' n:Nat}{a:Option Addr}(h:aNO w lo hi n a)(h1:lo'<=lo)(h2:hi<=hi'):aNO w lo' hi' n a:=fun hn=>by
 obtain⟨b,off,ha,x1,x2,hc⟩:=h hn;exact⟨b,off,ha,by omega,by omega,hc⟩
end Go.Proofs.YtcebpkeiaiiphaaGreatDoor
