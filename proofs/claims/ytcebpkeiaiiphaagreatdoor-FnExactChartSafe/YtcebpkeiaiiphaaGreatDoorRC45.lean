import Derived.Test.YtcebpkeiaiiphaaGreatDoorRC44
set_option linter.unusedSimpArgs false
set_option linter.unusedVariables false
namespace Go.Proofs.YtcebpkeiaiiphaaGreatDoor
open Go.RowKit Go.Maps
set_option maxRecDepth 20000 in
set_option maxHeartbeats 1600000 in
theorem aEN(ps:List Pt)(w:World)(B:Nat)(a:Option Addr)(c:Nat)(s:ByteArray)(ta:Option Addr)(tn tc:Nat)(i:Nat)(hi:i<ps.length)(nm n:ByteArray)(hR:aAP w (·<B) ps a)(hB:B<=w.heap.size):
  Calls Tryz.prog 85 #[.agg #[.slice a ps.length c,.string s,.slice ta tn tc],.int .i64 i,.agg #[.string nm,.string n]] w fun e w'=>e=.returned (.bool (aCE (pth ps i) nm n))∧Below w.heap.size w w':=by
 have hK:=fun W (hW:Below w.heap.size w W)=>aMG ps W B a c s ta tn tc i hi nm n (hR.under (hW.mono hB)) (by have:=hW.size;omega)
 have hii:(i:Int)<(ps.length:Int):=by omega
 obtain⟨pl,hpl⟩:∃x,x=ps.length:=⟨_,rfl⟩;rw[<-hpl] at hK hii ⊢;have HE:Hid (aCE (pth ps i) nm n=(aGF (pth ps i) nm n&&decide ((sayF (pth ps i) nm n).needs.length=0))):=aA0 rfl;have bX:=aA6 w (.cells #[.slice a pl c,.string s,.slice ta tn tc] 61) (.cells #[.string nm,.string n] 153);have n0:((w.alloc (.cells #[.slice a pl c,.string s,.slice ta tn tc] 61)).alloc (.cells #[.string nm,.string n] 153)).heap[w.heap.size]?=some (.cells #[.slice a pl c,.string s,.slice ta tn tc] 61 (0,0)):=by
  rw[(aA2 _ _).block _ (by simp)]
  exact aA3 _ _ rfl
 have n1:((w.alloc (.cells #[.slice a pl c,.string s,.slice ta tn tc] 61)).alloc (.cells #[.string nm,.string n] 153)).heap[w.heap.size+1]?=some (.cells #[.string nm,.string n] 153 (0,0)):=aA3 _ _ (by simp)
 have HK:=aA0 (hK _ bX);obtain⟨x0,-⟩:=aA1 n0 0 (by simp)
 obtain⟨x1,-⟩:=aA1 n0 1 (by simp)
 obtain⟨x2,-⟩:=aA1 n0 2 (by simp)
 obtain⟨y0,-⟩:=aA1 n1 0 (by simp)
 obtain⟨y1,-⟩:=aA1 n1 1 (by simp)
 simp only[List.getElem_toArray,List.getElem_cons_zero,List.getElem_cons_succ] at x0 x1 x2 y0 y1;clear hK hR hi hpl n0 n1;generalize aCE (pth ps i) nm n=lb at*;generalize sayF (pth ps i) nm n=g at*;generalize aGF (pth ps i) nm n=kn at*;obtain⟨gn,gof,gl,gm,gfr,gh,gs,gd⟩:=g;simp only[fval] at HK HE;go_enter Tryz.func85,Tryz.ntmps85
 go_upto_region 1 with fail
 generalize (w.alloc (.cells #[.slice a pl c,.string s,.slice ta tn tc] 61)).alloc (.cells #[.string nm,.string n] 153)=X at*;have hzX:=bX.size;cases kn
 ·go_wp2_with (go_at_call 119;refine HK.out.mono ?_;rintro e w1 ⟨na,nc,rfl,hb1,-⟩;have b01:=fun o=>(bX.trans (hb1.mono hzX)).alloc (Nat.le_trans hzX hb1.size) o)
  go_ret
  exact⟨by rw[HE.out]<;>rfl,b01 _⟩
 by_cases hgd:gd.length=0
 ·rw[hgd] at HK HE;go_wp2_with (go_at_call 119;refine HK.out.mono ?_;rintro e w1 ⟨na,nc,rfl,hb1,-⟩;have b01:=fun o=>(bX.trans (hb1.mono hzX)).alloc (Nat.le_trans hzX hb1.size) o)
  go_ret
  exact⟨by rw[HE.out]<;>rfl,b01 _⟩
 ·have hgi:¬(gd.length:Int)=0:=by omega
  go_wp2_with (go_at_call 119;refine HK.out.mono ?_;rintro e w1 ⟨na,nc,rfl,hb1,-⟩;have b01:=fun o=>(bX.trans (hb1.mono hzX)).alloc (Nat.le_trans hzX hb1.size) o)
  go_ret
  exact⟨by rw[HE.out];simp[hgd],b01 _⟩
def aLQ(ps:List Pt)(nm n:ByteArray):Int:=if 0<=aC2 ps nm n then aC2 ps nm n else 0
def aLT(ps:List Pt)(nm n:ByteArray):Bool:=decide (0<=aC2 ps nm n)
theorem aP2(FW:World)(tmps:Array Value)(N:Nat)(v0 v1 v2 v3 v4 v5 v6 v7 x ok:Value)(h4:tmps.getD 4 undef=x)(h5:tmps.getD 5 undef=.pointer (some ⟨N,0,none⟩))(h6:tmps.getD 6 undef=ok)
  (hN:FW.heap[N]?=some (.cells #[v0,v1,v2,v3,v4,v5,v6,v7] 80 (0,0))):
  (results Tryz.f86 tmps).run Tryz.prog FW=.ok (.tuple #[x,.agg #[v0,v1,v2,v3,v4,v5,v6,v7],ok]) FW:=by
 have d0:=(aA1 hN 0 (by simp)).1
 have d1:=(aA1 hN 1 (by simp)).1
 have d2:=(aA1 hN 2 (by simp)).1
 have d3:=(aA1 hN 3 (by simp)).1
 have d4:=(aA1 hN 4 (by simp)).1
 have d5:=(aA1 hN 5 (by simp)).1
 have d6:=(aA1 hN 6 (by simp)).1
 have d7:=(aA1 hN 7 (by simp)).1
 simp only[List.getElem_toArray,List.getElem_cons_zero,List.getElem_cons_succ] at d0 d1 d2 d3 d4 d5 d6 d7;simp only[Array.getD_eq_getD_getElem?] at h4 h5 h6;simp[results,Tryz.results86,go_sem,h4,h5,h6,d0,d1,d2,d3,d4,d5,d6,d7]
set_option maxRecDepth 20000 in
set_option maxHeartbeats 3200000 in
theorem aOY(ps:List Pt)(w:World)(B:Nat)(a:Option Addr)(c:Nat)(s:ByteArray)(ta:Option Addr)(tn tc:Nat)(nm n:ByteArray)(hR:aAP w (·<B) ps a)(hB:B<=w.heap.size):
  Calls Tryz.prog 86 #[.agg #[.slice a ps.length c,.string s,.slice ta tn tc],.agg #[.string nm,.string n]] w fun e w'=>∃(na:Option Addr) (nc:Nat),e=.returned (.tuple #[.int .i64 (aLQ ps nm n),fval (aCS ps nm n) na nc,.bool (aLT ps nm n)])∧Below w.heap.size w w'∧FRep w' (·<B) (aCS ps nm n) (fval (aCS ps nm n) na nc):=by
 have h40:=hR.1;have HK:=aA0 (fun W (hW:Below w.heap.size w W) i (hi:i<ps.length)=>aMG ps W B a c s ta tn tc i hi nm n (hR.under (hW.mono hB)) (by have:=hW.size;omega))
 have HHK:=aA0 (fun W (hW:Below w.heap.size w W) i (hi:i<ps.length)=>aHR ps W B a c s ta tn tc i hi nm (hR.under (hW.mono hB)) (by have:=hW.size;omega))
 have HPL:Hid (ps.length=ps.length):=aA0 rfl;obtain⟨pl,hpl⟩:∃x,x=ps.length:=⟨_,rfl⟩;rw[<-hpl] at HK HHK h40 ⊢;have bX:=((aA6 w (.cells #[.slice a pl c,.string s,.slice ta tn tc] 61) (.cells #[.string nm,.string n] 153))).alloc (by simp;omega) (.cells #[.string ⟨#[]⟩,.string ⟨#[]⟩,.bool false,.bool false,.bool false,.bool false,.bool false,.slice none 0 0] 80)
 have zX:(((w.alloc (.cells #[.slice a pl c,.string s,.slice ta tn tc] 61)).alloc (.cells #[.string nm,.string n] 153)).alloc (.cells #[.string ⟨#[]⟩,.string ⟨#[]⟩,.bool false,.bool false,.bool false,.bool false,.bool false,.slice none 0 0] 80)).heap.size=w.heap.size+1+1+1:=by simp
 have n0:(((w.alloc (.cells #[.slice a pl c,.string s,.slice ta tn tc] 61)).alloc (.cells #[.string nm,.string n] 153)).alloc (.cells #[.string ⟨#[]⟩,.string ⟨#[]⟩,.bool false,.bool false,.bool false,.bool false,.bool false,.slice none 0 0] 80)).heap[w.heap.size]?=some (.cells #[.slice a pl c,.string s,.slice ta tn tc] 61 (0,0)):=by
  rw[(aA6 _ _ _).block _ (by simp)]
  exact aA3 _ _ rfl
 have n1:(((w.alloc (.cells #[.slice a pl c,.string s,.slice ta tn tc] 61)).alloc (.cells #[.string nm,.string n] 153)).alloc (.cells #[.string ⟨#[]⟩,.string ⟨#[]⟩,.bool false,.bool false,.bool false,.bool false,.bool false,.slice none 0 0] 80)).heap[w.heap.size+1]?=some (.cells #[.string nm,.string n] 153 (0,0)):=by
  rw[(aA2 _ _).block _ (by simp)]
  exact aA3 _ _ (by simp)
 have n2:(((w.alloc (.cells #[.slice a pl c,.string s,.slice ta tn tc] 61)).alloc (.cells #[.string nm,.string n] 153)).alloc (.cells #[.string ⟨#[]⟩,.string ⟨#[]⟩,.bool false,.bool false,.bool false,.bool false,.bool false,.slice none 0 0] 80)).heap[w.heap.size+1+1]?=some (.cells #[.string ⟨#[]⟩,.string ⟨#[]⟩,.bool false,.bool false,.bool false,.bool false,.bool false,.slice none 0 0] 80 (0,0)):=aA3 _ _ (by simp)
 have HBW:=aA0 hB;have HQ:Hid (qB nm=(nm.toList==[113,117,101,114,121])):=aA0 rfl;have HIX:Hid (aC2 ps nm n=aA9 (aDL ps nm n) pl):=aA0 (by rw[hpl];rfl)
 replace hpl:=aA0 hpl
 clear hR hB HPL;go_enter Tryz.func86,Tryz.ntmps86
 go_upto_region 1 with fail
 generalize ((w.alloc (.cells #[.slice a pl c,.string s,.slice ta tn tc] 61)).alloc (.cells #[.string nm,.string n] 153)).alloc (.cells #[.string ⟨#[]⟩,.string ⟨#[]⟩,.bool false,.bool false,.bool false,.bool false,.bool false,.slice none 0 0] 80)=X at*;have HX:Hid (∀W,Below X.heap.size X W->(W.cell? ⟨w.heap.size,0,none⟩=some (.slice a pl c)∧W.cell? ⟨w.heap.size,1,none⟩=some (.string s)∧W.cell? ⟨w.heap.size,2,none⟩=some (.slice ta tn tc)∧W.cell? ⟨w.heap.size+1,0,none⟩=some (.string nm)∧W.cell? ⟨w.heap.size+1,1,none⟩=some (.string n))∧W.heap[w.heap.size+1+1]?=some (.cells #[.string ⟨#[]⟩,.string ⟨#[]⟩,.bool false,.bool false,.bool false,.bool false,.bool false,.slice none 0 0] 80 (0,0))∧Below w.heap.size w W∧w.heap.size+1+1<W.heap.size):=aA0 fun W hW=>by
  have h0:=(hW.block w.heap.size (by omega)).trans n0
  have h1:=(hW.block (w.heap.size+1) (by omega)).trans n1
  have h2:=(hW.block (w.heap.size+1+1) (by omega)).trans n2
  have:=hW.size;exact⟨⟨(aA1 h0 0 (by simp)).1,(aA1 h0 1 (by simp)).1,(aA1 h0 2 (by simp)).1,(aA1 h1 0 (by simp)).1,(aA1 h1 1 (by simp)).1⟩,h2,bX.trans (hW.mono bX.size),by omega⟩
 clear n0 n1 n2 zX bX;obtain⟨⟨x0,-⟩,-⟩:=HX.out X (Below.refl _ _);go_wp2_with fail
 clear x0;go_loopw [13] (fun i wr=>∃k:Nat,k<=pl∧i=.int .i64 k∧Hid (∀j,j<k->aDL ps nm n j=false)∧Below X.heap.size X wr) (fun i _=>pl- (intOf i).toNat)
 case atStart=>exact⟨0,Nat.zero_le _,rfl,aA0 fun j hj=>by omega,Below.refl _ _⟩
 case round=>
  obtain⟨k,hk,rfl,HN,hb⟩:=hrel;obtain⟨w0,rfl⟩:∃x,x=wr:=⟨wr,rfl⟩;have zb:=hb.size;by_cases hlt:k<pl
  case neg=>
   have e:k=pl:=by omega
   subst e;have hki:¬(k:Int)<(k:Int):=by omega
   have hix:aC2 ps nm n=-1:=by rw[HIX.out];exact aB3 HN.out
   obtain⟨-,nE,bw,hz⟩:=HX.out w0 hb;have HFIN:Hid (∃(na:Option Addr) (nc:Nat),Ending.returned (.tuple #[.int .i64 0,.agg #[.string ⟨#[]⟩,.string ⟨#[]⟩,.bool false,.bool false,.bool false,.bool false,.bool false,.slice none 0 0],.bool false])=.returned (.tuple #[.int .i64 (aLQ ps nm n),fval (aCS ps nm n) na nc,.bool (aLT ps nm n)])∧Below w.heap.size w ((((((((w0.setCell ⟨w.heap.size+1+1,0,none⟩ (.string ⟨#[]⟩)).setCell ⟨w.heap.size+1+1,1,none⟩ (.string ⟨#[]⟩)).setCell ⟨w.heap.size+1+1,2,none⟩ (.bool false)).setCell ⟨w.heap.size+1+1,3,none⟩ (.bool false)).setCell ⟨w.heap.size+1+1,4,none⟩ (.bool false)).setCell ⟨w.heap.size+1+1,5,none⟩ (.bool false)).setCell ⟨w.heap.size+1+1,6,none⟩ (.bool false)).setCell ⟨w.heap.size+1+1,7,none⟩ (.slice none 0 0))∧FRep ((((((((w0.setCell ⟨w.heap.size+1+1,0,none⟩ (.string ⟨#[]⟩)).setCell ⟨w.heap.size+1+1,1,none⟩ (.string ⟨#[]⟩)).setCell ⟨w.heap.size+1+1,2,none⟩ (.bool false)).setCell ⟨w.heap.size+1+1,3,none⟩ (.bool false)).setCell ⟨w.heap.size+1+1,4,none⟩ (.bool false)).setCell ⟨w.heap.size+1+1,5,none⟩ (.bool false)).setCell ⟨w.heap.size+1+1,6,none⟩ (.bool false)).setCell ⟨w.heap.size+1+1,7,none⟩ (.slice none 0 0)) (·<B) (aCS ps nm n) (fval (aCS ps nm n) na nc)):=aA0 (by
    have e1:¬0<=aC2 ps nm n:=by rw[hix];omega
    have e2:aCS ps nm n=F.zero:=if_neg e1;have e3:aLQ ps nm n=0:=if_neg e1;have e4:aLT ps nm n=false:=decide_eq_false e1;rw[e3,e2,e4];exact⟨none,0,rfl,aAH bw (by omega) _ _ _ _ _ _ _ _,FRep.zero _ _⟩)
   have HR8:=aA0 (aFM nE (.string ⟨#[]⟩) (.string ⟨#[]⟩) (.bool false) (.bool false) (.bool false) (.bool false) (.bool false) (.slice none 0 0));obtain⟨y0,g0⟩:=aA1 nE 0 (by simp)
   obtain⟨y1,g1⟩:=aA1 nE 1 (by simp)
   obtain⟨y2,g2⟩:=aA1 nE 2 (by simp)
   obtain⟨y3,g3⟩:=aA1 nE 3 (by simp)
   obtain⟨y4,g4⟩:=aA1 nE 4 (by simp)
   obtain⟨y5,g5⟩:=aA1 nE 5 (by simp)
   obtain⟨y6,g6⟩:=aA1 nE 6 (by simp)
   obtain⟨y7,g7⟩:=aA1 nE 7 (by simp)
   simp only[List.getElem_toArray,List.getElem_cons_zero,List.getElem_cons_succ] at y0 y1 y2 y3 y4 y5 y6 y7;clear nE hix bw hz;go_wp2_with fail
   exact bodyPost_ret (aP2 _ _ (w.heap.size+1+1) _ _ _ _ _ _ _ _ _ _ rfl rfl rfl HR8.out) rfl HFIN.out
  have hki:(k:Int)<(pl:Int):=by omega
  have HKN:=aA0 (HK.out w0 (HX.out w0 hb).2.2.1 k (by have:=hpl.out;omega))
  have HKY:=aA0 (fun W (hW:Below w0.heap.size w0 W)=>HHK.out W ((HX.out w0 hb).2.2.1.trans (hW.mono (HX.out w0 hb).2.2.1.size)) k (by have:=hpl.out;omega))
  have HAT:Hid (aDL ps nm n k=(aGF (pth ps k) nm n&&(qB nm||aCV (pth ps k) nm))):=aA0 rfl;have HNO:Hid (aDL ps nm n k=false->∀j,j<k+1->aDL ps nm n j=false):=aA0 fun h j hj=>by
   by_cases e:j=k
   ·subst e;exact h
   ·exact HN.out j (by omega)
  have HYE:Hid (aDL ps nm n k=true->aC2 ps nm n=k):=aA0 fun h=>by rw[HIX.out];exact aAX HN.out h hlt
  have HHF:Hid (aDL ps nm n k=true->aCS ps nm n=sayF (pth ps k) nm n):=aA0 fun h=>by
   unfold aCS;rw[HYE.out h,if_pos (by omega)];rfl
  rw[HQ.out] at HAT;generalize aCV (pth ps k) nm=kd at*;generalize aGF (pth ps k) nm n=kn at*;generalize sayF (pth ps k) nm n=g at*;generalize aDL ps nm n k=hm at*;obtain⟨gn,gof,gl,gm,gfr,gh,gs,gd⟩:=g;simp only[fval] at HKN;obtain⟨⟨x0,x1,x2,y0,y1⟩,-,bw0,-⟩:=HX.out w0 hb;go_upto_region 5 with(go_at_call 119;refine HKN.out.mono ?_;rintro e w1 ⟨na,nc,rfl,hb1,hfr⟩)
  have bF:=aA2 w1 (.cells #[.string gn,.string gof,.bool gl,.bool gm,.bool gfr,.bool gh,.bool gs,.slice na gd.length nc] 80);have nF:=aA3 (w:=w1) (N:=w1.heap.size) #[.string gn,.string gof,.bool gl,.bool gm,.bool gfr,.bool gh,.bool gs,.slice na gd.length nc] 80 rfl;have zF:(w1.alloc (.cells #[.string gn,.string gof,.bool gl,.bool gm,.bool gfr,.bool gh,.bool gs,.slice na gd.length nc] 80)).heap.size=w1.heap.size+1:=by simp
  have b1:=hb.trans (hb1.mono zb);have b2:=b1.trans (bF.mono b1.size);have HFR:=aA0 (hfr.under (bF.mono (by have:=HBW.out;have:=(HX.out w1 b1).2.2.1.size;omega)))
  have HY0:=aA0 (hb1.trans (bF.mono hb1.size));have hz1:=(HX.out w1 b1).2.2.2;clear x0 x1 x2 y0 y1 bw0 hfr HKN hb1;generalize w1.alloc (.cells #[.string gn,.string gof,.bool gl,.bool gm,.bool gfr,.bool gh,.bool gs,.slice na gd.length nc] 80)=Y at*;have HBX:Hid (∀W,Below Y.heap.size Y W->Below X.heap.size X W∧(W.cell? ⟨w1.heap.size,0,none⟩=some (.string gn)∧W.cell? ⟨w1.heap.size,1,none⟩=some (.string gof)∧W.cell? ⟨w1.heap.size,2,none⟩=some (.bool gl)∧W.cell? ⟨w1.heap.size,3,none⟩=some (.bool gm)∧W.cell? ⟨w1.heap.size,4,none⟩=some (.bool gfr)∧W.cell? ⟨w1.heap.size,5,none⟩=some (.bool gh)∧W.cell? ⟨w1.heap.size,6,none⟩=some (.bool gs)∧W.cell? ⟨w1.heap.size,7,none⟩=some (.slice na gd.length nc))):=aA0 fun W hW=>by
   have h:=(hW.block w1.heap.size (by omega)).trans nF
   exact⟨b2.trans (hW.mono b2.size),(aA1 h 0 (by simp)).1,(aA1 h 1 (by simp)).1,(aA1 h 2 (by simp)).1,(aA1 h 3 (by simp)).1,(aA1 h 4 (by simp)).1,(aA1 h 5 (by simp)).1,(aA1 h 6 (by simp)).1,(aA1 h 7 (by simp)).1⟩
  have HNE:Hid (w.heap.size+1+1≠w1.heap.size):=aA0 (by omega)
  have HYW:=aA0 (HX.out Y b2).2.2.1;obtain⟨⟨x0,x1,x2,y0,y1⟩,-,-,-⟩:=HX.out Y b2;clear nF bF b1 b2 zF hz1;go_cut [35] (fun r wx=>r=.bool hm∧Below Y.heap.size Y wx)
  case first=>
   cases hq:(nm.toList==[113,117,101,114,121]);all_goals
    rw[hq] at HAT;cases kn<;>cases kd
   all_goals
    go_wp2_with (go_at_call 120;refine(HKY.out Y HY0.out).mono ?_;rintro e w2 ⟨rfl,hb2⟩)
    go_meet
    case rel=>exact⟨by rw[HAT.out]<;>rfl,by first| exact hb2| exact Below.refl _ _⟩
  case rest=>
   obtain⟨rfl,bx⟩:=hcut;obtain⟨wx,rfl⟩:∃x,x=wc:=⟨wc,rfl⟩;clear x0 x1 x2 y0 y1;have HB2:=aA0 bx;clear bx;cases hm
   ·have bR:=(HBX.out wx HB2.out).1;go_wp2_with fail
    go_roundw
    case measure=>simp[intOf];omega
    case rel=>exact⟨k+1,by omega,by go_num,aA0 (HNO.out rfl),bR⟩
   ·have HST:Hid (∀W,Below Y.heap.size Y W->((((((((W.setCell ⟨w.heap.size+1+1,0,none⟩ (.string gn)).setCell ⟨w.heap.size+1+1,1,none⟩ (.string gof)).setCell ⟨w.heap.size+1+1,2,none⟩ (.bool gl)).setCell ⟨w.heap.size+1+1,3,none⟩ (.bool gm)).setCell ⟨w.heap.size+1+1,4,none⟩ (.bool gfr)).setCell ⟨w.heap.size+1+1,5,none⟩ (.bool gh)).setCell ⟨w.heap.size+1+1,6,none⟩ (.bool gs)).setCell ⟨w.heap.size+1+1,7,none⟩ (.slice na gd.length nc)).cell? ⟨w1.heap.size,0,none⟩=some (.string gn)∧((((((((W.setCell ⟨w.heap.size+1+1,0,none⟩ (.string gn)).setCell ⟨w.heap.size+1+1,1,none⟩ (.string gof)).setCell ⟨w.heap.size+1+1,2,none⟩ (.bool gl)).setCell ⟨w.heap.size+1+1,3,none⟩ (.bool gm)).setCell ⟨w.heap.size+1+1,4,none⟩ (.bool gfr)).setCell ⟨w.heap.size+1+1,5,none⟩ (.bool gh)).setCell ⟨w.heap.size+1+1,6,none⟩ (.bool gs)).setCell ⟨w.heap.size+1+1,7,none⟩ (.slice na gd.length nc)).cell? ⟨w1.heap.size,1,none⟩=some (.string gof)∧((((((((W.setCell ⟨w.heap.size+1+1,0,none⟩ (.string gn)).setCell ⟨w.heap.size+1+1,1,none⟩ (.string gof)).setCell ⟨w.heap.size+1+1,2,none⟩ (.bool gl)).setCell ⟨w.heap.size+1+1,3,none⟩ (.bool gm)).setCell ⟨w.heap.size+1+1,4,none⟩ (.bool gfr)).setCell ⟨w.heap.size+1+1,5,none⟩ (.bool gh)).setCell ⟨w.heap.size+1+1,6,none⟩ (.bool gs)).setCell ⟨w.heap.size+1+1,7,none⟩ (.slice na gd.length nc)).cell? ⟨w1.heap.size,2,none⟩=some (.bool gl)∧((((((((W.setCell ⟨w.heap.size+1+1,0,none⟩ (.string gn)).setCell ⟨w.heap.size+1+1,1,none⟩ (.string gof)).setCell ⟨w.heap.size+1+1,2,none⟩ (.bool gl)).setCell ⟨w.heap.size+1+1,3,none⟩ (.bool gm)).setCell ⟨w.heap.size+1+1,4,none⟩ (.bool gfr)).setCell ⟨w.heap.size+1+1,5,none⟩ (.bool gh)).setCell ⟨w.heap.size+1+1,6,none⟩ (.bool gs)).setCell ⟨w.heap.size+1+1,7,none⟩ (.slice na gd.length nc)).cell? ⟨w1.heap.size,3,none⟩=some (.bool gm)∧((((((((W.setCell ⟨w.heap.size+1+1,0,none⟩ (.string gn)).setCell ⟨w.heap.size+1+1,1,none⟩ (.string gof)).setCell ⟨w.heap.size+1+1,2,none⟩ (.bool gl)).setCell ⟨w.heap.size+1+1,3,none⟩ (.bool gm)).setCell ⟨w.heap.size+1+1,4,none⟩ (.bool gfr)).setCell ⟨w.heap.size+1+1,5,none⟩ (.bool gh)).setCell ⟨w.heap.size+1+1,6,none⟩ (.bool gs)).setCell ⟨w.heap.size+1+1,7,none⟩ (.slice na gd.length nc)).cell? ⟨w1.heap.size,4,none⟩=some (.bool gfr)∧((((((((W.setCell ⟨w.heap.size+1+1,0,none⟩ (.string gn)).setCell ⟨w.heap.size+1+1,1,none⟩ (.string gof)).setCell ⟨w.heap.size+1+1,2,none⟩ (.bool gl)).setCell ⟨w.heap.size+1+1,3,none⟩ (.bool gm)).setCell ⟨w.heap.size+1+1,4,none⟩ (.bool gfr)).setCell ⟨w.heap.size+1+1,5,none⟩ (.bool gh)).setCell ⟨w.heap.size+1+1,6,none⟩ (.bool gs)).setCell ⟨w.heap.size+1+1,7,none⟩ (.slice na gd.length nc)).cell? ⟨w1.heap.size,5,none⟩=some (.bool gh)∧((((((((W.setCell ⟨w.heap.size+1+1,0,none⟩ (.string gn)).setCell ⟨w.heap.size+1+1,1,none⟩ (.string gof)).setCell ⟨w.heap.size+1+1,2,none⟩ (.bool gl)).setCell ⟨w.heap.size+1+1,3,none⟩ (.bool gm)).setCell ⟨w.heap.size+1+1,4,none⟩ (.bool gfr)).setCell ⟨w.heap.size+1+1,5,none⟩ (.bool gh)).setCell ⟨w.heap.size+1+1,6,none⟩ (.bool gs)).setCell ⟨w.heap.size+1+1,7,none⟩ (.slice na gd.length nc)).cell? ⟨w1.heap.size,6,none⟩=some (.bool gs)∧((((((((W.setCell ⟨w.heap.size+1+1,0,none⟩ (.string gn)).setCell ⟨w.heap.size+1+1,1,none⟩ (.string gof)).setCell ⟨w.heap.size+1+1,2,none⟩ (.bool gl)).setCell ⟨w.heap.size+1+1,3,none⟩ (.bool gm)).setCell ⟨w.heap.size+1+1,4,none⟩ (.bool gfr)).setCell ⟨w.heap.size+1+1,5,none⟩ (.bool gh)).setCell ⟨w.heap.size+1+1,6,none⟩ (.bool gs)).setCell ⟨w.heap.size+1+1,7,none⟩ (.slice na gd.length nc)).cell? ⟨w1.heap.size,7,none⟩=some (.slice na gd.length nc)):=aA0 fun W hW=>by
     obtain⟨d0,d1,d2,d3,d4,d5,d6,d7⟩:=(HBX.out W hW).2;have hne:=HNE.out;generalize w.heap.size+1+1=M at*;have hst:∀j,((((((((W.setCell ⟨M,0,none⟩ (.string gn)).setCell ⟨M,1,none⟩ (.string gof)).setCell ⟨M,2,none⟩ (.bool gl)).setCell ⟨M,3,none⟩ (.bool gm)).setCell ⟨M,4,none⟩ (.bool gfr)).setCell ⟨M,5,none⟩ (.bool gh)).setCell ⟨M,6,none⟩ (.bool gs)).setCell ⟨M,7,none⟩ (.slice na gd.length nc)).cell? ⟨w1.heap.size,j,none⟩=W.cell? ⟨w1.heap.size,j,none⟩:=fun j=>World.cell?_of_block (aCZ (fun e=>hne e.symm) _ _ _ _ _ _ _ _ _);exact⟨(hst 0).trans d0,(hst 1).trans d1,(hst 2).trans d2,(hst 3).trans d3,(hst 4).trans d4,(hst 5).trans d5,(hst 6).trans d6,(hst 7).trans d7⟩
    have HR8:Hid (∀W,Below Y.heap.size Y W->((((((((W.setCell ⟨w.heap.size+1+1,0,none⟩ (.string gn)).setCell ⟨w.heap.size+1+1,1,none⟩ (.string gof)).setCell ⟨w.heap.size+1+1,2,none⟩ (.bool gl)).setCell ⟨w.heap.size+1+1,3,none⟩ (.bool gm)).setCell ⟨w.heap.size+1+1,4,none⟩ (.bool gfr)).setCell ⟨w.heap.size+1+1,5,none⟩ (.bool gh)).setCell ⟨w.heap.size+1+1,6,none⟩ (.bool gs)).setCell ⟨w.heap.size+1+1,7,none⟩ (.slice na gd.length nc)).heap[w.heap.size+1+1]?=some (.cells #[.string gn,.string gof,.bool gl,.bool gm,.bool gfr,.bool gh,.bool gs,.slice na gd.length nc] 80 (0,0))):=aA0 fun W hW=>aFM (HX.out W (HBX.out W hW).1).2.1 _ _ _ _ _ _ _ _;have HFIN:Hid (∀W,Below Y.heap.size Y W->∃(na':Option Addr) (nc':Nat),Ending.returned (.tuple #[.int .i64 k,.agg #[.string gn,.string gof,.bool gl,.bool gm,.bool gfr,.bool gh,.bool gs,.slice na gd.length nc],.bool true])=.returned (.tuple #[.int .i64 (aLQ ps nm n),fval (aCS ps nm n) na' nc',.bool (aLT ps nm n)])∧Below w.heap.size w ((((((((W.setCell ⟨w.heap.size+1+1,0,none⟩ (.string gn)).setCell ⟨w.heap.size+1+1,1,none⟩ (.string gof)).setCell ⟨w.heap.size+1+1,2,none⟩ (.bool gl)).setCell ⟨w.heap.size+1+1,3,none⟩ (.bool gm)).setCell ⟨w.heap.size+1+1,4,none⟩ (.bool gfr)).setCell ⟨w.heap.size+1+1,5,none⟩ (.bool gh)).setCell ⟨w.heap.size+1+1,6,none⟩ (.bool gs)).setCell ⟨w.heap.size+1+1,7,none⟩ (.slice na gd.length nc))∧FRep ((((((((W.setCell ⟨w.heap.size+1+1,0,none⟩ (.string gn)).setCell ⟨w.heap.size+1+1,1,none⟩ (.string gof)).setCell ⟨w.heap.size+1+1,2,none⟩ (.bool gl)).setCell ⟨w.heap.size+1+1,3,none⟩ (.bool gm)).setCell ⟨w.heap.size+1+1,4,none⟩ (.bool gfr)).setCell ⟨w.heap.size+1+1,5,none⟩ (.bool gh)).setCell ⟨w.heap.size+1+1,6,none⟩ (.bool gs)).setCell ⟨w.heap.size+1+1,7,none⟩ (.slice na gd.length nc)) (·<B) (aCS ps nm n) (fval (aCS ps nm n) na' nc')):=aA0 fun W hW=>by
     have hB:=HBW.out;have hs:=HYW.out.size;have e1:0<=aC2 ps nm n:=by rw[HYE.out rfl];omega
     have e3:aLQ ps nm n=k:=(if_pos e1).trans (HYE.out rfl);have e4:aLT ps nm n=true:=decide_eq_true e1;rw[e3,HHF.out rfl,e4];refine⟨na,nc,rfl,aAH (HYW.out.trans (hW.mono hs)) (by omega) _ _ _ _ _ _ _ _,?_⟩
     exact(HFR.out.under (hW.mono (by omega))).mono fun b hb=>aCZ (by have hb:b<B:=hb;omega) _ _ _ _ _ _ _ _ _
    go_wp2_with fail
    refine wp_region_held_drew (S:=(fun W=>W.cell? ⟨w1.heap.size,0,none⟩=some (.string gn)∧W.cell? ⟨w1.heap.size,1,none⟩=some (.string gof)∧W.cell? ⟨w1.heap.size,2,none⟩=some (.bool gl)∧W.cell? ⟨w1.heap.size,3,none⟩=some (.bool gm)∧W.cell? ⟨w1.heap.size,4,none⟩=some (.bool gfr)∧W.cell? ⟨w1.heap.size,5,none⟩=some (.bool gh)∧W.cell? ⟨w1.heap.size,6,none⟩=some (.bool gs)∧W.cell? ⟨w1.heap.size,7,none⟩=some (.slice na gd.length nc))) (by kernel_rfl) (HBX.out _ HB2.out.drew).2 (fun hHeld=>?_)
    have bY:=HB2.out.drew;generalize wx.drew=wD at*;refine tkH 0 hHeld ?_;refine tkH 1 hHeld ?_;refine tkH 2 hHeld ?_;refine rdyH [3] ?_;refine rcH (fun K hK=>?_) AllReadyH.nil;have nE:=(HX.out wD (HBX.out wD bY).1).2.1;obtain⟨y0,g0⟩:=aA1 nE 0 (by simp)
    obtain⟨y1,g1⟩:=aA1 nE 1 (by simp)
    obtain⟨y2,g2⟩:=aA1 nE 2 (by simp)
    obtain⟨y3,g3⟩:=aA1 nE 3 (by simp)
    obtain⟨y4,g4⟩:=aA1 nE 4 (by simp)
    obtain⟨y5,g5⟩:=aA1 nE 5 (by simp)
    obtain⟨y6,g6⟩:=aA1 nE 6 (by simp)
    obtain⟨y7,g7⟩:=aA1 nE 7 (by simp)
    go_simp
    refine hK.out _ _ (HST.out wD bY) (fun hHeld=>?_);clear hK K;try simp only[Act.put,sIA,sI0,sIS]
    refine tkH 4 hHeld ?_;refine wpAnyH_done (by kernel_rfl) ?_ _
    have HR9:=aA0 (HR8.out wD bY);have HFF:=aA0 (HFIN.out wD bY);go_wp2_with fail
    exact bodyPost_ret (aP2 _ _ (w.heap.size+1+1) _ _ _ _ _ _ _ _ _ _ rfl rfl rfl HR9.out) rfl HFF.out
set_option maxRecDepth 20000 in
set_option maxHeartbeats 1600000 in
theorem aN9(ps:List Pt)(w:World)(B:Nat)(a:Option Addr)(c:Nat)(s:ByteArray)(ta:Option Addr)(tn tc:Nat)(i:Nat)(hi:i<ps.length)(nm:ByteArray)(ns:List ByteArray)(na:Option Addr)(nc:Nat)(hS:Strs w (·<B) ns na)(hnl:ns.length<=1000000000)(hR:aAP w (·<B) ps a)(hB:B<=w.heap.size):
  Calls Tryz.prog 87 #[.agg #[.slice a ps.length c,.string s,.slice ta tn tc],.agg #[.int .i64 i,.string nm],.slice na ns.length nc] w fun e w'=>e=.returned (.bool (aJN ps i nm ns))∧Below w.heap.size w w':=by
 have HHK:=aA0 (fun W (hW:Below w.heap.size w W)=>aHR ps W B a c s ta tn tc i hi nm (hR.under (hW.mono hB)) (by have:=hW.size;omega))
 have HHM:=aA0 (fun W (hW:Below w.heap.size w W) n=>aOY ps W B a c s ta tn tc nm n (hR.under (hW.mono hB)) (by have:=hW.size;omega))
 have HAO:=aA0 (fun W (hW:Below w.heap.size w W) n=>aEN ps W B a c s ta tn tc i hi nm n (hR.under (hW.mono hB)) (by have:=hW.size;omega))
 have HST:Hid (∀W,Below w.heap.size w W->∀k,k<ns.length->∃b off,na=some ⟨b,off,none⟩∧W.cell? ⟨b,off+k,none⟩=some (.string (nth ns k))):=aA0 fun W hW k hk=>by
  obtain⟨b,off,e,hb,hc⟩:=hS.1 (by intro e;simp[e] at hk)
  exact⟨b,off,e,(hW.cell (aAA (hc k hk))).trans (hc k hk)⟩
 obtain⟨pl,hpl⟩:∃x,x=ps.length:=⟨_,rfl⟩;rw[<-hpl] at HHK HHM HAO ⊢;have bX:=aA6 w (.cells #[.slice a pl c,.string s,.slice ta tn tc] 61) (.cells #[.int .i64 i,.string nm] 72);have zX:((w.alloc (.cells #[.slice a pl c,.string s,.slice ta tn tc] 61)).alloc (.cells #[.int .i64 i,.string nm] 72)).heap.size=w.heap.size+1+1:=by simp
 have n0:((w.alloc (.cells #[.slice a pl c,.string s,.slice ta tn tc] 61)).alloc (.cells #[.int .i64 i,.string nm] 72)).heap[w.heap.size]?=some (.cells #[.slice a pl c,.string s,.slice ta tn tc] 61 (0,0)):=by
  rw[(aA2 _ _).block _ (by simp)]
  exact aA3 _ _ rfl
 have n1:((w.alloc (.cells #[.slice a pl c,.string s,.slice ta tn tc] 61)).alloc (.cells #[.int .i64 i,.string nm] 72)).heap[w.heap.size+1]?=some (.cells #[.int .i64 i,.string nm] 72 (0,0)):=aA3 _ _ (by simp)
 have HBR:Hid (aJN ps i nm ns=(aCV (pth ps i) nm&&aDU ps i nm ns ns.length)):=aA0 rfl;have HLN:=aA0 hnl;clear hS hR hB hpl hi hnl;go_enter Tryz.func87,Tryz.ntmps87
 go_upto_region 1 with fail
 generalize (w.alloc (.cells #[.slice a pl c,.string s,.slice ta tn tc] 61)).alloc (.cells #[.int .i64 i,.string nm] 72)=X at*;have HX:Hid (∀W,Below X.heap.size X W->(W.cell? ⟨w.heap.size,0,none⟩=some (.slice a pl c)∧W.cell? ⟨w.heap.size,1,none⟩=some (.string s)∧W.cell? ⟨w.heap.size,2,none⟩=some (.slice ta tn tc)∧W.cell? ⟨w.heap.size+1,0,none⟩=some (.int .i64 i)∧W.cell? ⟨w.heap.size+1,1,none⟩=some (.string nm))∧Below w.heap.size w W∧w.heap.size+1<W.heap.size):=aA0 fun W hW=>by
  have h0:=(hW.block w.heap.size (by omega)).trans n0
  have h1:=(hW.block (w.heap.size+1) (by omega)).trans n1
  have:=hW.size;exact⟨⟨(aA1 h0 0 (by simp)).1,(aA1 h0 1 (by simp)).1,(aA1 h0 2 (by simp)).1,(aA1 h1 0 (by simp)).1,(aA1 h1 1 (by simp)).1⟩,bX.trans (hW.mono bX.size),by omega⟩
 clear n0 n1 zX bX;obtain⟨⟨x0,x1,x2,y0,y1⟩,bw0,-⟩:=HX.out X (Below.refl _ _);have HK1:=aA0 (HHK.out X bw0);cases hkd:aCV (pth ps i) nm
 ·rw[hkd] at HK1 HBR;go_wp2_with (go_at_call 120;refine HK1.out.mono ?_;rintro e w1 ⟨rfl,hb1⟩)
  go_ret
  exact⟨by rw[HBR.out]<;>rfl,(HX.out w1 hb1).2.1⟩
 rw[hkd] at HK1 HBR;go_wp2_with (go_at_call 120;refine HK1.out.mono ?_;rintro e w1 ⟨rfl,hb1⟩)
 clear x0 x1 x2 y0 y1 bw0;go_loopw [22] (fun i' wr=>∃k:Nat,k<=ns.length∧i'=.int .i64 k∧Hid (aDU ps i nm ns k=true)∧Below X.heap.size X wr) (fun i' _=>ns.length- (intOf i').toNat)
 case atStart=>exact⟨0,Nat.zero_le _,rfl,aA0 rfl,hb1⟩
 case round=>
  obtain⟨k,hk,rfl,HN,hb⟩:=hrel;obtain⟨w0,rfl⟩:∃x,x=wr:=⟨wr,rfl⟩;have zb:=hb.size;have hln:=HLN.out;by_cases hlt:k<ns.length
  case neg=>
   have e:k=ns.length:=by omega
   have HE:Hid (aJN ps i nm ns=true):=aA0 (by rw[HBR.out,<-e,HN.out];rfl)
   have hki:¬(k:Int)<(ns.length:Int):=by omega
   have bR:=(HX.out w0 hb).2.1;go_wp2_with fail
   go_ret
   exact⟨by rw[HE.out]<;>rfl,bR⟩
  have hki:(k:Int)<(ns.length:Int):=by omega
  obtain⟨nb,noff,rfl,c0⟩:=HST.out w0 (HX.out w0 hb).2.1 k hlt;have HSU:Hid (aDU ps i nm ns (k+1)=aG1 ps i nm (nth ns k)):=aA0 (by
   show(aA7 _ k&&aG1 ps i nm (nth ns k))=_;have:aA7 (fun j=>aG1 ps i nm (nth ns j)) k=true:=HN.out;rw[this,Bool.true_and])
  have HNK:Hid (aG1 ps i nm (nth ns k)=(aCE (pth ps i) nm (nth ns k)||aLT ps nm (nth ns k))):=aA0 rfl;have HFB:Hid (aDU ps i nm ns (k+1)=false->aJN ps i nm ns=false):=aA0 fun h=>by
   rw[HBR.out];have:aDU ps i nm ns ns.length=false:=by
    show aA7 _ _=false;refine aAJ hlt ?_;rw[<-HSU.out];exact h
   rw[this];rfl
  have HM1:=aA0 (fun W (hW:Below w.heap.size w W)=>HHM.out W hW (nth ns k));have HA1:=aA0 (fun W (hW:Below w.heap.size w W)=>HAO.out W hW (nth ns k));generalize nth ns k=nd at*;generalize aCE (pth ps i) nm nd=lc at*;generalize aCS ps nm nd=g at*;generalize aLQ ps nm nd=hv at*;generalize aLT ps nm nd=hmb at*;generalize aG1 ps i nm nd=nok at*;obtain⟨gn,gof,gl,gm,gfr,gh,gs,gd⟩:=g;simp only[fval] at HM1;obtain⟨⟨x0,x1,x2,y0,y1⟩,bw0,-⟩:=HX.out w0 hb;go_upto_region 7 with fail
  have bK:=aA2 w0 (.cells #[.string nm,.string nd] 153);have nK:=aA3 (w:=w0) (N:=w0.heap.size) #[.string nm,.string nd] 153 rfl;have zK:(w0.alloc (.cells #[.string nm,.string nd] 153)).heap.size=w0.heap.size+1:=by simp
  have hb':=hb.trans (bK.mono zb);clear x0 x1 x2 y0 y1 c0 bK bw0;generalize w0.alloc (.cells #[.string nm,.string nd] 153)=Y at*;obtain⟨⟨x0,x1,x2,y0,y1⟩,bwY,-⟩:=HX.out Y hb';obtain⟨k0,-⟩:=aA1 nK 0 (by simp)
  obtain⟨k1,-⟩:=aA1 nK 1 (by simp)
  simp only[List.getElem_toArray,List.getElem_cons_zero,List.getElem_cons_succ] at k0 k1;have HM2:=aA0 (HM1.out Y bwY);go_upto_region 8 with(go_at_call 86;refine HM2.out.mono ?_;rintro e w2 ⟨na',nc',rfl,hb2,-⟩)
  have b2F:=fun o=>hb2.trans ((aA2 w2 o).mono hb2.size);have HYB:Hid (∀W,Below Y.heap.size Y W->(W.cell? ⟨w.heap.size,0,none⟩=some (.slice a pl c)∧W.cell? ⟨w.heap.size,1,none⟩=some (.string s)∧W.cell? ⟨w.heap.size,2,none⟩=some (.slice ta tn tc)∧W.cell? ⟨w.heap.size+1,0,none⟩=some (.int .i64 i)∧W.cell? ⟨w.heap.size+1,1,none⟩=some (.string nm))∧(W.cell? ⟨w0.heap.size,0,none⟩=some (.string nm)∧W.cell? ⟨w0.heap.size,1,none⟩=some (.string nd))∧Below X.heap.size X W∧Below w.heap.size w W):=aA0 fun W hW=>by
   have h:=(hW.block w0.heap.size (by omega)).trans nK
   have hw:=hb'.trans (hW.mono hb'.size);exact⟨(HX.out W hw).1,⟨(aA1 h 0 (by simp)).1,(aA1 h 1 (by simp)).1⟩,hw,(HX.out W hw).2.1⟩
  clear x0 x1 x2 y0 y1 k0 k1 nK zK hb' bwY HM1 HM2;cases hmb
  ·obtain⟨⟨x0,x1,x2,y0,y1⟩,⟨k0,k1⟩,bx,bw⟩:=HYB.out _ (b2F (.cells #[.string gn,.string gof,.bool gl,.bool gm,.bool gfr,.bool gh,.bool gs,.slice na' gd.length nc'] 80));have HA2:=aA0 (HA1.out _ bw);cases lc
   ·go_wp2_with (go_at_call 85;refine HA2.out.mono ?_;rintro e w3 ⟨rfl,hb3⟩)
    go_ret
    exact⟨by rw[HFB.out (by rw[HSU.out,HNK.out]<;>rfl)]<;>rfl,bw.trans (hb3.mono bw.size)⟩
   ·go_wp2_with (go_at_call 85;refine HA2.out.mono ?_;rintro e w3 ⟨rfl,hb3⟩)
    go_roundw
    case measure=>simp[intOf];omega
    case rel=>exact⟨k+1,by omega,by go_num,aA0 (by rw[HSU.out,HNK.out]<;>rfl),bx.trans (hb3.mono bx.size)⟩
  ·obtain⟨-,-,bx,bw⟩:=HYB.out _ (b2F (.cells #[.string gn,.string gof,.bool gl,.bool gm,.bool gfr,.bool gh,.bool gs,.slice na' gd.length nc'] 80));go_wp2_with fail
   go_roundw
   case measure=>simp[intOf];omega
   case rel=>exact⟨k+1,by omega,by go_num,aA0 (by rw[HSU.out,HNK.out];simp),bx⟩
theorem aGX(FW:World)(tmps:Array Value)(x y:Value)(h6:tmps.getD 6 undef=x)(h7:tmps.getD 7 undef=y):
  (results Tryz.f58 tmps).run Tryz.prog FW=.ok (.tuple #[x,y]) FW:=by
 simp only[Array.getD_eq_getD_getElem?] at h6 h7;simp[results,Tryz.results58,go_sem,h6,h7]
def aK3(ps:List Pt)(s:Nat)(nm n:ByteArray):Int:=if aCT ps s nm n=true then(aEO ps s nm n:Int) else 0
set_option maxRecDepth 20000 in
set_option maxHeartbeats 1600000 in
theorem aK0(ps:List Pt)(w:World)(B:Nat)(a:Option Addr)(c:Nat)(s:ByteArray)(ta:Option Addr)(tn tc:Nat)(i:Nat)(hi:i<ps.length)(nm n:ByteArray)(hnl:∀m k,(sayF (pth ps m) nm k).needs.length<=1000000000)(hR:aAP w (·<B) ps a)(hB:B<=w.heap.size):
  Calls Tryz.prog 58 #[.agg #[.slice a ps.length c,.string s,.slice ta tn tc],.agg #[.int .i64 i,.string nm],.string n] w fun e w'=>e=.returned (.tuple #[.int .i64 (aK3 ps i nm n),.bool (aCT ps i nm n)])∧Below w.heap.size w w':=by
 have HHK:=aA0 (fun W (hW:Below w.heap.size w W)=>aHR ps W B a c s ta tn tc i hi nm (hR.under (hW.mono hB)) (by have:=hW.size;omega))
 have HHM:=aA0 (fun W (hW:Below w.heap.size w W) n=>aOY ps W B a c s ta tn tc nm n (hR.under (hW.mono hB)) (by have:=hW.size;omega))
 have HAO:=aA0 (fun W (hW:Below w.heap.size w W) n=>aEN ps W B a c s ta tn tc i hi nm n (hR.under (hW.mono hB)) (by have:=hW.size;omega))
 have HCB:=aA0 (fun W (hW:Below w.heap.size w W) ns na nc (hS:Strs W (·<B) ns na) (hl:ns.length<=1000000000)=>aN9 ps W B a c s ta tn tc i hi nm ns na nc hS hl (hR.under (hW.mono hB)) (by have:=hW.size;omega))
 have hln:(aCS ps nm n).needs.length<=1000000000:=by
  unfold aCS;split
  ·exact hnl _ _
  ·simp[F.zero]
 have HNB:Hid (aCT ps i nm n=((!qB nm&&aCE (pth ps i) nm n)||(aLT ps nm n&&(qB nm||aJN ps i nm (aCS ps nm n).needs)))):=aA0 rfl;have HNV1:Hid ((!qB nm&&aCE (pth ps i) nm n)=true->aK3 ps i nm n=i):=aA0 fun h=>by
  have e1:aCT ps i nm n=true:=by rw[HNB.out,h];rfl
  unfold aK3 aEO;rw[if_pos e1,if_pos h]
 have HNV2:Hid ((!qB nm&&aCE (pth ps i) nm n)=false->aCT ps i nm n=true->aK3 ps i nm n=aLQ ps nm n):=aA0 fun h h2=>by
  have h3:=h2;rw[HNB.out,h,Bool.false_or,Bool.and_eq_true] at h3;have h4:0<=aC2 ps nm n:=of_decide_eq_true h3.1;unfold aK3 aEO aLQ;rw[if_pos h2,if_neg (by rw[h];simp),if_pos h4]
  omega
 have HNV0:Hid (aCT ps i nm n=false->aK3 ps i nm n=0):=aA0 fun h=>by
  unfold aK3;rw[if_neg (by rw[h];simp)]
 have HQ:Hid (qB nm=(nm.toList==[113,117,101,114,121])):=aA0 rfl;obtain⟨pl,hpl⟩:∃x,x=ps.length:=⟨_,rfl⟩;rw[<-hpl] at HHK HHM HAO HCB ⊢;have bX:=aA6 w (.cells #[.slice a pl c,.string s,.slice ta tn tc] 61) (.cells #[.int .i64 i,.string nm] 72);have zX:((w.alloc (.cells #[.slice a pl c,.string s,.slice ta tn tc] 61)).alloc (.cells #[.int .i64 i,.string nm] 72)).heap.size=w.heap.size+1+1:=by simp
 have n0:((w.alloc (.cells #[.slice a pl c,.string s,.slice ta tn tc] 61)).alloc (.cells #[.int .i64 i,.string nm] 72)).heap[w.heap.size]?=some (.cells #[.slice a pl c,.string s,.slice ta tn tc] 61 (0,0)):=by
  rw[(aA2 _ _).block _ (by simp)]
  exact aA3 _ _ rfl
 have n1:((w.alloc (.cells #[.slice a pl c,.string s,.slice ta tn tc] 61)).alloc (.cells #[.int .i64 i,.string nm] 72)).heap[w.heap.size+1]?=some (.cells #[.int .i64 i,.string nm] 72 (0,0)):=aA3 _ _ (by simp)
 have HBW:=aA0 hB;clear hR hB hpl hi hnl HHK;have HA1:=aA0 (fun W (hW:Below w.heap.size w W)=>HAO.out W hW n);have HM1:=aA0 (fun W (hW:Below w.heap.size w W)=>HHM.out W hW n);have HC1:=aA0 (fun W (hW:Below w.heap.size w W) na nc (hS:Strs W (·<B) (aCS ps nm n).needs na)=>HCB.out W hW (aCS ps nm n).needs na nc hS hln);clear HAO HHM HCB hln;generalize aCE (pth ps i) nm n=lc at*;generalize aLT ps nm n=hmb at*;generalize aJN ps i nm (aCS ps nm n).needs=br at*;generalize aCS ps nm n=g at*;generalize aLQ ps nm n=hv at*;generalize aK3 ps i nm n=nv at*;generalize aCT ps i nm n=nb at*;obtain⟨gn,gof,gl,gm,gfr,gh,gs,gd⟩:=g;simp only[fval] at HM1 HC1;go_enter Tryz.func58,Tryz.ntmps58
 go_upto_region 1 with fail
 generalize (w.alloc (.cells #[.slice a pl c,.string s,.slice ta tn tc] 61)).alloc (.cells #[.int .i64 i,.string nm] 72)=X at*;have HX:Hid (∀W,Below X.heap.size X W->(W.cell? ⟨w.heap.size,0,none⟩=some (.slice a pl c)∧W.cell? ⟨w.heap.size,1,none⟩=some (.string s)∧W.cell? ⟨w.heap.size,2,none⟩=some (.slice ta tn tc)∧W.cell? ⟨w.heap.size+1,0,none⟩=some (.int .i64 i)∧W.cell? ⟨w.heap.size+1,1,none⟩=some (.string nm))∧Below w.heap.size w W∧w.heap.size+1<W.heap.size):=aA0 fun W hW=>by
  have h0:=(hW.block w.heap.size (by omega)).trans n0
  have h1:=(hW.block (w.heap.size+1) (by omega)).trans n1
  have:=hW.size;exact⟨⟨(aA1 h0 0 (by simp)).1,(aA1 h0 1 (by simp)).1,(aA1 h0 2 (by simp)).1,(aA1 h1 0 (by simp)).1,(aA1 h1 1 (by simp)).1⟩,bX.trans (hW.mono bX.size),by omega⟩
 clear n0 n1 zX bX;obtain⟨⟨x0,x1,x2,y0,y1⟩,bw0,-⟩:=HX.out X (Below.refl _ _);go_upto_region 2 with fail
 have bK:=aA2 X (.cells #[.string nm,.string n] 153);have nK:=aA3 (w:=X) (N:=X.heap.size) #[.string nm,.string n] 153 rfl;have zK:(X.alloc (.cells #[.string nm,.string n] 153)).heap.size=X.heap.size+1:=by simp
 clear x0 x1 x2 y0 y1 bw0;generalize X.alloc (.cells #[.string nm,.string n] 153)=Y at*;have HY:Hid (∀W,Below Y.heap.size Y W->(W.cell? ⟨w.heap.size,0,none⟩=some (.slice a pl c)∧W.cell? ⟨w.heap.size,1,none⟩=some (.string s)∧W.cell? ⟨w.heap.size,2,none⟩=some (.slice ta tn tc)∧W.cell? ⟨w.heap.size+1,0,none⟩=some (.int .i64 i)∧W.cell? ⟨w.heap.size+1,1,none⟩=some (.string nm))∧(W.cell? ⟨X.heap.size,0,none⟩=some (.string nm)∧W.cell? ⟨X.heap.size,1,none⟩=some (.string n))∧Below w.heap.size w W):=aA0 fun W hW=>by
  have h:=(hW.block X.heap.size (by omega)).trans nK
  have hw:=bK.trans (hW.mono (by omega))
  exact⟨(HX.out W hw).1,⟨(aA1 h 0 (by simp)).1,(aA1 h 1 (by simp)).1⟩,(HX.out W hw).2.1⟩
 clear bK nK zK;rw[HQ.out] at HNB HNV1 HNV2;go_cut [25] (fun r wx=>r=.bool (!(nm.toList==[113,117,101,114,121])&&lc)∧Below Y.heap.size Y wx)
 case first=>
  obtain⟨⟨x0,x1,x2,y0,y1⟩,⟨k0,k1⟩,bw⟩:=HY.out Y (Below.refl _ _);have HA2:=aA0 (HA1.out Y bw);cases hq:(nm.toList==[113,117,101,114,121]);all_goals
   go_wp2_with (go_at_call 85;refine HA2.out.mono ?_;rintro e w3 ⟨rfl,hb3⟩)
   go_meet
   case rel=>exact⟨by first| rfl| (rw[hq]<;>rfl),by first| exact hb3| exact Below.refl _ _⟩
 case rest=>
  obtain⟨rfl,bx⟩:=hcut;obtain⟨wx,rfl⟩:∃x,x=wc:=⟨wc,rfl⟩;obtain⟨fst,hfs⟩:∃b,b=(!(nm.toList==[113,117,101,114,121])&&lc):=⟨_,rfl⟩;rw[<-hfs] at HNB HNV1 HNV2 ⊢;clear hfs;obtain⟨⟨x0,x1,x2,y0,y1⟩,⟨k0,k1⟩,bw⟩:=HY.out wx bx;cases fst
  rotate_left
  ·go_wp2_with fail
   exact bodyPost_ret (aGX _ _ _ _ rfl rfl) rfl ⟨by rw[HNV1.out (by trivial),HNB.out]<;>rfl,bw⟩
  have HM2:=aA0 (HM1.out wx bw);go_upto_region 5 with(go_at_call 86;refine HM2.out.mono ?_;rintro e w2 ⟨na,nc,rfl,hb2,hfr⟩)
  have bF:=aA2 w2 (.cells #[.string gn,.string gof,.bool gl,.bool gm,.bool gfr,.bool gh,.bool gs,.slice na gd.length nc] 80);have nF:=aA3 (w:=w2) (N:=w2.heap.size) #[.string gn,.string gof,.bool gl,.bool gm,.bool gfr,.bool gh,.bool gs,.slice na gd.length nc] 80 rfl;have zF:(w2.alloc (.cells #[.string gn,.string gof,.bool gl,.bool gm,.bool gfr,.bool gh,.bool gs,.slice na gd.length nc] 80)).heap.size=w2.heap.size+1:=by simp
  have b2:=bx.trans (hb2.mono bx.size);have b3:=b2.trans (bF.mono b2.size);have HSS:Hid (Strs _ (·<B) gd na):=aA0 (by
   obtain⟨na',nc',e,hS,-⟩:=hfr.under (bF.mono (by have:=HBW.out;have:=(HY.out w2 b2).2.2.size;omega))
   simp only[Value.agg.injEq,Array.mk.injEq,List.cons.injEq,Value.slice.injEq,and_true,true_and] at e;obtain⟨rfl,-⟩:=e;exact hS)
  clear x0 x1 x2 y0 y1 k0 k1 hfr HM2 HM1;generalize w2.alloc (.cells #[.string gn,.string gof,.bool gl,.bool gm,.bool gfr,.bool gh,.bool gs,.slice na gd.length nc] 80)=Z at*;obtain⟨⟨x0,x1,x2,y0,y1⟩,⟨k0,k1⟩,bwZ⟩:=HY.out Z b3;obtain⟨f7,-⟩:=aA1 nF 7 (by simp)
  simp only[List.getElem_toArray,List.getElem_cons_zero,List.getElem_cons_succ] at f7;have HC2:=aA0 (HC1.out Z bwZ na nc HSS.out);clear HC1 HSS bF nF b2 b3 zF;cases hmb
  ·go_wp2_with fail
   have e:nb=false:=HNB.out;exact bodyPost_ret (aGX _ _ _ _ rfl rfl) rfl ⟨by rw[HNV0.out e,e]<;>rfl,bwZ⟩
  cases hq:(nm.toList==[113,117,101,114,121])
  ·cases br;all_goals
    rw[hq] at HNB;go_wp2_with (go_at_call 87;refine HC2.out.mono ?_;rintro e w3 ⟨rfl,hb3⟩)
    first
     |(have e:nb=false:=HNB.out
       exact bodyPost_ret (aGX _ _ _ _ rfl rfl) rfl ⟨by rw[HNV0.out e,e]<;>rfl,bwZ.trans (hb3.mono bwZ.size)⟩)
     |(have e:nb=true:=HNB.out
       exact bodyPost_ret (aGX _ _ _ _ rfl rfl) rfl ⟨by rw[HNV2.out (by trivial) e,e]<;>rfl,bwZ.trans (hb3.mono bwZ.size)⟩)
  ·rw[hq] at HNB;go_wp2_with fail
   have e:nb=true:=HNB.out;exact bodyPost_ret (aGX _ _ _ _ rfl rfl) rfl ⟨by rw[HNV2.out (by trivial) e,e]<;>rfl,bwZ⟩
set_option maxHeartbeats 400000 in
theorem aEV(ns:List ByteArray)(a:Option Addr)(c:Nat)(w:World)(P:Nat->Prop)(hS:Strs w P ns a)(hb:16*ns.length<=140737488355328):
  Calls Tryz.prog 57 #[.slice a ns.length c] w fun e w'=>∃v:Value,e=.returned v∧w'.ownsRow w.heap.size 9 1 v ns.length (ns.map Value.string)∧Below w.heap.size w w':=by
 obtain⟨h1,h2,h3⟩:=hS;obtain⟨i0,hi,hz0,hz1,hz2⟩:=info_parts aMV;by_cases hn0:ns.length=0
 ·have hns:ns=[]:=by simpa using hn0
  subst hns;cases a with
  |none=>
   go_enter Tryz.func57,Tryz.ntmps57
   go_wp2_with fail
   go_ret
   exact⟨_,rfl,World.ownsRow_nil _ _ _ _,Below.refl _ _⟩
  |some ad=>
   go_enter Tryz.func57,Tryz.ntmps57
   go_wp2_with fail
   go_ret
   exact⟨_,rfl,World.ownsRow_nil _ _ _ _,Below.refl _ _⟩
 ·obtain⟨b,off,rfl,_,hc⟩:=h1 (by intro e;simp[e] at hn0)
  clear h1;go_enter Tryz.func57,Tryz.ntmps57
  go_wp2_with (at_builtin;refine wpList_append_lies _ rfl _ _ 33 rfl w.heap.size 9 i0 (.string ByteArray.empty) 1 16 Tryz.underlying33 hi hz0 hz1 hz2 rfl (by decide) (.slice none 0 0) 0 [] rfl (World.ownsRow_nil _ _ _ _) ⟨b,off,none⟩ ns.length c (ns.map Value.string) rfl (by simp) ?c1 ?c2 (by omega) ?c3 (by omega) (Nat.le_refl _) _ rfl ?_)
  case c1=>
   intro j u hj;obtain⟨hj',rfl⟩:=aS8 ns j u hj;rw[Addr.add_lit];exact hc j hj'
  case c2=>
   intro u hu;obtain⟨s,-,rfl⟩:=List.mem_map.1 hu;rfl
  case c3=>omega
  intro g cap w' hown hgrow hat hlt;have HO:=aA0 hown;have HB:=aA0 ((Below.refl w.heap.size w).grown hgrow (Nat.le_refl _) (fun k hk=>by simp[Value.ownBlock] at hk))
  clear hown hgrow hat;go_wp2_with fail
  go_ret
  exact⟨_,rfl,by simpa using HO.out,HB.out⟩
structure FrmP(base Lw:Nat)(w X:World)(N m:Nat)(sv:Value)(W:World):Prop where
 old:Below base w W
 size:X.heap.size<=W.heap.size
 blk:∀b,Lw<=b->b<X.heap.size->W.heap[b]?=X.heap[b]?
 rS:∀g,sv.ownBlock=some g->base<=g∧(g<Lw∨X.heap.size<=g)
 nL:N<Lw
 mL:m<Lw
 bN:base<=N
 bm:base<=m
 nX:Lw<=X.heap.size
theorem FrmP.keep{base Lw N m:Nat}{w X W W':World}{sv:Value}(h:FrmP base Lw w X N m sv W)(hb:Below W.heap.size W W'):FrmP base Lw w X N m sv W':=by
 have h1:=h.nL;have h2:=h.bN;have h3:=h.nX;have h4:=h.size;exact⟨h.old.trans (hb.mono (by omega)),Nat.le_trans h.size hb.size,fun b hb1 hb2=>(hb.block b (by omega)).trans (h.blk b hb1 hb2),h.rS,h.nL,h.mL,h.bN,h.bm,h.nX⟩
theorem FrmP.chg{base Lw N m:Nat}{w X W W':World}{sv sv':Value}(h:FrmP base Lw w X N m sv W)(hc:ChgP N m sv W W')(hn:∀g,sv'.ownBlock=some g->sv.ownBlock=some g∨W.heap.size<=g):FrmP base Lw w X N m sv' W':=by
 have h1:=h.nL;have h2:=h.bN;have h3:=h.nX;have h4:=h.size;have h5:=h.mL;have h6:=h.bm;refine⟨⟨hc.os.trans h.old.os,hc.tape.trans h.old.tape,hc.output.trans h.old.output,Nat.le_trans h.old.size hc.size,fun b hb=>(hc.block b (by omega) (by omega) (by omega) fun e=>by have:=(h.rS b e).1;omega).trans (h.old.block b hb)⟩,Nat.le_trans h.size hc.size,fun b hb1 hb2=>(hc.block b (by omega) (by omega) (by omega) fun e=>by have:=(h.rS b e).2;omega).trans (h.blk b hb1 hb2),fun g e=>?_,h1,h5,h2,h6,h3⟩
 rcases hn g e with e1| e1
 ·exact h.rS g e1
 ·omega
theorem aP6(ps:List Pt)(s:Sta)(way:List ByteArray)(L M:List F)(K:Wk):∀j,j<=L.length->K.flds ps s way (L++M) j=K.flds ps s way L j
 |0,_=>rfl
 |j+1,h=>by
  have e:fth (L++M) j=fth L j:=by simp[fth,List.getD_eq_getElem?_getD,List.getElem?_append_left (show j<L.length by omega)]
  show(K.flds ps s way (L++M) j).fld ps s way (fth (L++M) j)=(K.flds ps s way L j).fld ps s way (fth L j);rw[aP6 ps s way L M K j (by omega),e]
theorem aN1(ps:List Pt)(s:Sta)(way:List ByteArray)(fs:List F)(K:Wk):∀k,K.flds ps s way fs k=K.flds ps s way (aAU fs k) (aAU fs k).length
 |0=>rfl
 |k+1=>by
  show(K.flds ps s way fs k).fld ps s way (fth fs k)=_;rw[aN1 ps s way fs K k,aAU];by_cases h:(fth fs k).hidden=true
  ·rw[if_pos h,List.append_nil];unfold Wk.fld;rw[if_pos h]
  ·rw[if_neg h,List.length_append,List.length_singleton];show _=(K.flds ps s way (aAU fs k++[aJ1 (fth fs k)]) (aAU fs k).length).fld ps s way (fth (aAU fs k++[aJ1 (fth fs k)]) (aAU fs k).length);rw[aP6 ps s way _ _ K _ (Nat.le_refl _)];have e:fth (aAU fs k++[aJ1 (fth fs k)]) (aAU fs k).length=aJ1 (fth fs k):=by simp[fth,List.getD_eq_getElem?_getD]
   rw[e];rfl
theorem aPJ(fs:List F)(k i:Nat)(hi:i<(aAU fs k).length):(fth (aAU fs k) i).hidden=false:=by
 induction k with
 |zero=>simp[aAU] at hi
 |succ k ih=>
  rw[aAU] at hi ⊢;by_cases h:i<(aAU fs k).length
  ·have e:fth (aAU fs k++if(fth fs k).hidden=true then[] else[aJ1 (fth fs k)]) i=fth (aAU fs k) i:=by simp[fth,List.getD_eq_getElem?_getD,List.getElem?_append_left h]
   rw[e];exact ih h
  ·by_cases hh:(fth fs k).hidden=true
   ·rw[if_pos hh,List.append_nil] at hi;omega
   ·rw[if_neg hh,List.length_append,List.length_singleton] at hi;have e2:i=(aAU fs k).length:=by omega
    subst e2;rw[if_neg hh];have e:fth (aAU fs k++[aJ1 (fth fs k)]) (aAU fs k).length=aJ1 (fth fs k):=by simp[fth,List.getD_eq_getElem?_getD]
    rw[e];simpa[aJ1] using hh
theorem aR0(ps:List Pt)(all:Pt)(i:Nat)(K:Wk):K.turn ps all i=K.flds ps (sta K.st i) (wth K.wy i) (aAU (aA5 all (sta K.st i).type).fields (aA5 all (sta K.st i).type).fields.length) (aAU (aA5 all (sta K.st i).type).fields (aA5 all (sta K.st i).type).fields.length).length:=aN1 ps _ _ _ K _
theorem aT9{ps:List Pt}{all:Pt}{n j:Nat}{s:Sta}{way:List ByteArray}{L:List F}(hn:n<wkN ps all)(hT:wkTo ps all (n+1)=(wkTo ps all n).flds ps s way L L.length)(hj:j<L.length)(h:((wkTo ps all n).flds ps s way L (j+1)).bad.length≠0):
  (wkE ps all).bad=((wkTo ps all n).flds ps s way L (j+1)).bad:=by
 have h1:=Wk.flds_bad ps s way L (wkTo ps all n) (j+1) h (L.length- (j+1));rw[show j+1+(L.length- (j+1))=L.length by omega,<-hT] at h1
 have h3:=aPF ps all (n+1) (by rw[h1];exact h) (wkN ps all- (n+1))
 rw[show n+1+(wkN ps all- (n+1))=wkN ps all by omega] at h3
 exact h3.trans h1
end Go.Proofs.YtcebpkeiaiiphaaGreatDoor
