import Derived.Test.YtcebpkeiaiiphaaGreatDoorRC47
import Derived.Test.YtcebpkeiaiiphaaGreatDoorRC28
set_option linter.unusedSimpArgs false
set_option linter.unusedVariables false
namespace Go.Proofs.YtcebpkeiaiiphaaGreatDoor
open Go.RowKit
def aPV(ps qs:List Pt):Bool:=aBA ps okP&&(aBA qs okP&&(aFC qs&&(aD4 (allM ps) (allM qs)).isEmpty))
theorem aII{ps:List Pt}(h:aBA ps okP=true):szP (allM ps)<=1048576:=Nat.le_trans (aKE _ (aE1 h).1).1 (by omega)
def aHQ(ps qs:List Pt)(w:World)(e:Ending)(w':World):Prop:=e=.returned (.bool (aPV ps qs))∧Below w.heap.size w w'
def aTW(ps:List Pt)(a:Option Addr)(pl c:Nat)(bb:Bool)(w:World)(e:Ending)(w':World):Prop:=∃s ta tn tc,e=.returned (.tuple #[.agg #[.slice a pl c,.string s,.slice ta tn tc],.bool bb])∧Below w.heap.size w w'∧(bb=true->PRep w' (fun b=>w.heap.size<b∧b<w'.heap.size) (allM ps) (.agg #[.string s,.slice ta tn tc]))
theorem aOT(l:List ByteArray):(((l.length:Nat):Int)==0)=l.isEmpty:=by
 cases l with
 |nil=>rfl
 |cons x r=>
  have h:(((x::r).length:Nat):Int)≠0:=by rw[List.length_cons];omega
  rw[beq_eq_false_iff_ne.2 h];rfl
set_option maxRecDepth 20000 in
set_option maxHeartbeats 3200000 in
theorem aK2(ps qs:List Pt)(w:World)(B:Nat)(a a':Option Addr)(c c':Nat)(hc:ps.length<=c)(hc':qs.length<=c')(hR:aAP w (·<B) ps a)(hR':aAP w (·<B) qs a')(hB:B<=w.heap.size)(hz:∀i,i<ps.length->szP (pth ps i)<=1048576)(hz':∀i,i<qs.length->szP (pth qs i)<=1048576)(hG:GErr w):
  Calls Tryz.prog 24 #[.slice a ps.length c,.slice a' qs.length c'] w (aHQ ps qs w):=by
 obtain⟨pl,hpl⟩:∃x,Hid (ps.length=x):=⟨_,aA0 rfl⟩;obtain⟨ql,hql⟩:∃x,Hid (qs.length=x):=⟨_,aA0 rfl⟩;obtain⟨b1,HB1⟩:∃x,Hid (aBA ps okP=x):=⟨_,aA0 rfl⟩;obtain⟨b2,HB2⟩:∃x,Hid (aBA qs okP=x):=⟨_,aA0 rfl⟩;obtain⟨b3,HB3⟩:∃x,Hid (aFC qs=x):=⟨_,aA0 rfl⟩;obtain⟨L,HBL⟩:∃x,Hid (aD4 (allM ps) (allM qs)=x):=⟨_,aA0 rfl⟩;have HS:Hid (aPV ps qs=(b1&&(b2&&(b3&&L.isEmpty)))):=aA0 (by unfold aPV;rw[HB1.out,HB2.out,HB3.out,HBL.out])
 have HC1:Hid (Calls Tryz.prog 29 #[.slice a pl c] w (aTW ps a pl c b1 w)):=aA0 (by
  have:=aH8 ps w B a c hc hR hB hz hG;rw[hpl.out,HB1.out] at this;exact this)
 have HC2:Hid (∀W,Below w.heap.size w W->Calls Tryz.prog 29 #[.slice a' ql c'] W (aTW qs a' ql c' b2 W)):=aA0 fun W hW=>by
  have:=aH8 qs W B a' c' hc' (hR'.under (hW.mono hB)) (Nat.le_trans hB hW.size) hz' (hG.on hW);rw[hql.out,HB2.out] at this;exact this
 have HRO:Hid (∀W,Below w.heap.size w W->Calls Tryz.prog 17 #[.slice a' ql c'] W fun e w'=>∃ra n rc,e=.returned (.tuple #[.bool b3,.slice ra n rc])∧Below W.heap.size W w'):=aA0 fun W hW=>by
  have:=aML qs W B a' c' hc' (hR'.under (hW.mono hB)) (Nat.le_trans hB hW.size) hz' (hG.on hW);rw[hql.out] at this;refine this.mono ?_;rintro e w' ⟨ra,rc,h1,h2,-⟩;rw[HB3.out] at h1;exact⟨ra,_,rc,h1,h2⟩
 have HPB:Hid (b1=true->b2=true->∀(W:World) (B:Nat) (v u:Value),PRep W (·<B) (allM ps) v->PRep W (·<B) (allM qs) u->B<=W.heap.size->Calls Tryz.prog 45 #[v,u] W fun e w'=>∃ra rc,e=.returned (.slice ra L.length rc)∧Below W.heap.size W w'):=aA0 fun h1 h2 W B v u hv hu hB=>by
  refine(aJP (allM ps) (allM qs) W B v u hv hu hB (aII (HB1.out.trans h1)) (aII (HB2.out.trans h2))).mono ?_;rintro e w' ⟨ra,rc,h1,-,h2,-⟩;rw[HBL.out] at h1;exact⟨ra,rc,h1,h2⟩
 unfold aHQ;rw[hpl.out,hql.out,HS.out];clear hR hR' hB hz hz' hG hc hc' hpl hql HB1 HB2 HB3 HBL HS;have HN:=aA0 (aOT L);go_enter Tryz.func24,Tryz.ntmps24
 go_upto_region 2 with(
  go_at_call 29
  refine HC1.out.mono ?_;rintro e w1 ⟨s,ta,tn,tc,rfl,b1',hP⟩)
 have nC:=aA0 (aA3 (w:=w1) (N:=w1.heap.size) #[.slice a pl c,.string s,.slice ta tn tc] 61 rfl);have bC:=aA2 w1 (.cells #[.slice a pl c,.string s,.slice ta tn tc] 61);have bX:=b1'.trans (bC.mono b1'.size);have HZ1:Hid (w.heap.size<=w1.heap.size∧w1.heap.size<(w1.alloc (.cells #[.slice a pl c,.string s,.slice ta tn tc] 61)).heap.size):=aA0 ⟨b1'.size,by simp⟩
 have HP1:Hid (b1=true->PRep _ (·<w1.heap.size) (allM ps) (.agg #[.string s,.slice ta tn tc])):=aA0 fun h=>((hP h).mono fun b hb=>bC.block b hb.2).sub fun b hb=>hb.2;clear hP bC b1';generalize w1.alloc (.cells #[.slice a pl c,.string s,.slice ta tn tc] 61)=X at*;have HC2':=aA0 (HC2.out X bX);clear HC1 HC2;go_upto_region 3 with(
  go_at_call 29
  refine HC2'.out.mono ?_;rintro e w2 ⟨s',ta',tn',tc',rfl,b2',hP'⟩)
 have nD:=aA0 (aA3 (w:=w2) (N:=w2.heap.size) #[.slice a' ql c',.string s',.slice ta' tn' tc'] 61 rfl);have bD:=aA2 w2 (.cells #[.slice a' ql c',.string s',.slice ta' tn' tc'] 61);have bXY:=b2'.trans (bD.mono b2'.size);have bY:=bX.trans (bXY.mono bX.size);have HZ2:Hid (X.heap.size<=w2.heap.size∧w2.heap.size<(w2.alloc (.cells #[.slice a' ql c',.string s',.slice ta' tn' tc'] 61)).heap.size):=aA0 ⟨b2'.size,by simp⟩
 have HP2:Hid (b2=true->PRep _ (·<w2.heap.size) (allM qs) (.agg #[.string s',.slice ta' tn' tc'])):=aA0 fun h=>((hP' h).mono fun b hb=>bD.block b hb.2).sub fun b hb=>hb.2;clear hP' bD b2' HC2';generalize w2.alloc (.cells #[.slice a' ql c',.string s',.slice ta' tn' tc'] 61)=Y at*;have HXY:=aA0 bXY;have HBY:=aA0 bY;clear bXY bX bY;cases b1
 ·go_wp2_with fail
  go_ret
  exact⟨rfl,HBY.out⟩
 cases b2
 ·go_wp2_with fail
  go_ret
  exact⟨rfl,HBY.out⟩
 have HRO':=aA0 (HRO.out Y HBY.out);go_upto_region 6 with(
  go_at_call 17
  refine HRO'.out.mono ?_;rintro e w3 ⟨ra,rn,rc,rfl,b3'⟩)
 have HB3:=aA0 b3';clear HRO HRO' b3';cases b3
 ·go_wp2_with fail
  go_ret
  exact⟨rfl,HBY.out.trans (HB3.out.mono HBY.out.size)⟩
 have HQ:Hid (PRep w3 (·<w2.heap.size) (allM ps) (.agg #[.string s,.slice ta tn tc])∧PRep w3 (·<w2.heap.size) (allM qs) (.agg #[.string s',.slice ta' tn' tc'])∧w2.heap.size<=w3.heap.size):=aA0 (by
  have q1:=HZ1.out;have q2:=HZ2.out;have q3:=HB3.out.size;exact⟨((((HP1.out (by trivial)).under (HXY.out.mono (by omega))).under (HB3.out.mono (by omega))).sub fun b (hb:b<w1.heap.size)=>show b<w2.heap.size by omega),(HP2.out (by trivial)).under (HB3.out.mono (by omega)),by omega⟩)
 have HPC:=aA0 (HPB.out (by trivial) (by trivial) w3 w2.heap.size _ _ HQ.out.1 HQ.out.2.1 HQ.out.2.2)
 have n1:w3.heap[w1.heap.size]?=_:=(HB3.out.block w1.heap.size (by have:=HZ1.out;have:=HZ2.out;omega)).trans ((HXY.out.block w1.heap.size HZ1.out.2).trans nC.out)
 have n2:w3.heap[w2.heap.size]?=_:=(HB3.out.block w2.heap.size HZ2.out.2).trans nD.out;obtain⟨x1,-⟩:=aA1 n1 1 (by simp)
 obtain⟨x2,-⟩:=aA1 n1 2 (by simp)
 obtain⟨y1,-⟩:=aA1 n2 1 (by simp)
 obtain⟨y2,-⟩:=aA1 n2 2 (by simp)
 simp only[List.getElem_toArray,List.getElem_cons_zero,List.getElem_cons_succ] at x1 x2 y1 y2;have HFB:Hid (Below w.heap.size w w3):=aA0 (HBY.out.trans (HB3.out.mono HBY.out.size));clear n1 n2 nC nD HQ HPB HP1 HP2 HXY HBY HB3 HZ1 HZ2;go_wp2_with (
  go_at_call 45
  refine HPC.out.mono ?_;rintro e w4 ⟨ga,gc,rfl,b4⟩)
 go_ret
 exact⟨by rw[HN.out]<;>rfl,HFB.out.trans (b4.mono HFB.out.size)⟩
def aU1(b:Bool)(ps:List Pt)(w:World)(e:Ending)(w':World):Prop:=∃(s0:ByteArray) (a1:Option Addr) (l1 c1:Nat) (a2:Option Addr) (l2 c2:Nat) (at':Int) (ty fl:ByteArray) (code:Int),e=.returned (.tuple #[.agg #[.string s0,.slice a1 l1 c1,.slice a2 l2 c2],.agg #[.int .i64 at',.string ty,.string fl,.int .i64 code]])∧(code==0)=b∧Below w.heap.size w w'∧(b=true->PRep w' (·<w'.heap.size) (allM ps) (.agg #[.string s0,.slice a1 l1 c1]))
theorem aOI{w:World}{Lo B:Nat}{ps:List Pt}{b:Bool}{e:Ending}{w':World}(hB:B<=w.heap.size)(h:aUG w Lo B ps b e w'):aU1 b ps w e w':=by
 obtain⟨s0,a1,l1,c1,a2,l2,c2,at',ty,fl,code,rfl,hcode,b1,hok⟩:=h;refine⟨s0,a1,l1,c1,a2,l2,c2,at',ty,fl,code,rfl,?_,b1,fun hb=>?_⟩
 ·cases b
  ·exact beq_eq_false_iff_ne.2 fun h=>by have:=hcode.1 h;cases this
  ·exact beq_iff_eq.2 (hcode.2 rfl)
 ·obtain⟨rfl,rfl,hP⟩:=hok hb;refine hP.sub fun b hb=>?_;have:=b1.size;show b<w'.heap.size;rcases hb with hb| hb<;>omega
set_option maxRecDepth 20000 in
set_option maxHeartbeats 3200000 in
theorem aK4(ps qs:List Pt)(w:World)(Lo Lo' B B':Nat)(a a':Option Addr)(c c':Nat)(hR:aAP w (fun b=>Lo<=b∧b<B) ps a)(hR':aAP w (fun b=>Lo'<=b∧b<B') qs a')(hB:B<=w.heap.size)(hB':B'<=w.heap.size)(hz:∀i,i<ps.length->szP (pth ps i)<=1048576)(hz':∀i,i<qs.length->szP (pth qs i)<=1048576):
  Calls Tryz.prog 23 #[.slice a ps.length c,.slice a' qs.length c'] w (aHQ ps qs w):=by
 obtain⟨pl,hpl⟩:∃x,Hid (ps.length=x):=⟨_,aA0 rfl⟩;obtain⟨ql,hql⟩:∃x,Hid (qs.length=x):=⟨_,aA0 rfl⟩;obtain⟨b1,HB1⟩:∃x,Hid (aBA ps okP=x):=⟨_,aA0 rfl⟩;obtain⟨b2,HB2⟩:∃x,Hid (aBA qs okP=x):=⟨_,aA0 rfl⟩;obtain⟨b3,HB3⟩:∃x,Hid (aFC qs=x):=⟨_,aA0 rfl⟩;obtain⟨L,HBL⟩:∃x,Hid (aD4 (allM ps) (allM qs)=x):=⟨_,aA0 rfl⟩;have HS:Hid (aPV ps qs=(b1&&(b2&&(b3&&L.isEmpty)))):=aA0 (by unfold aPV;rw[HB1.out,HB2.out,HB3.out,HBL.out])
 have hQ:∀W,Below w.heap.size w W->aAP W (fun b=>Lo'<=b∧b<B') qs a':=fun W hW=>hR'.mono fun b hb=>hW.block b (by omega)
 have HC1:Hid (Calls Tryz.prog 26 #[.slice a pl c] w (aU1 b1 ps w)):=aA0 (by
  have:=(aEF ps w Lo B a c hR hB hz).mono fun e w' h=>aOI hB h;rw[hpl.out,HB1.out] at this;exact this)
 have HC2:Hid (∀W,Below w.heap.size w W->Calls Tryz.prog 26 #[.slice a' ql c'] W (aU1 b2 qs W)):=aA0 fun W hW=>by
  have hBW:=Nat.le_trans hB' hW.size;have:=(aEF qs W Lo' B' a' c' (hQ W hW) hBW hz').mono fun e w' h=>aOI hBW h;rw[hql.out,HB2.out] at this;exact this
 have HRO:Hid (∀W,Below w.heap.size w W->Calls Tryz.prog 16 #[.slice a' ql c'] W fun e w'=>∃ra n rc,e=.returned (.tuple #[.bool b3,.slice ra n rc])∧Below W.heap.size W w'):=aA0 fun W hW=>by
  have:=aMK qs W Lo' B' a' c' (hQ W hW) (Nat.le_trans hB' hW.size) hz';rw[hql.out] at this;refine this.mono ?_;rintro e w' ⟨ra,rc,h1,h2,-⟩;rw[HB3.out] at h1;exact⟨ra,_,rc,h1,h2⟩
 have HPB:Hid (b1=true->b2=true->∀(W:World) (B:Nat) (v u:Value),PRep W (·<B) (allM ps) v->PRep W (·<B) (allM qs) u->B<=W.heap.size->Calls Tryz.prog 44 #[v,u] W fun e w'=>∃ra rc,e=.returned (.slice ra L.length rc)∧Below W.heap.size W w'):=aA0 fun h1 h2 W B v u hv hu hB=>by
  refine(aIY (allM ps) (allM qs) W B v u hv hu hB (aII (HB1.out.trans h1)) (aII (HB2.out.trans h2))).mono ?_;rintro e w' ⟨ra,rc,h1,-,h2,-⟩;rw[HBL.out] at h1;exact⟨ra,rc,h1,h2⟩
 unfold aHQ;rw[hpl.out,hql.out,HS.out];clear hR hR' hB hB' hz hz' hpl hql HB1 HB2 HB3 HBL HS hQ;have HN:=aA0 (aOT L);go_enter Tryz.func23,Tryz.ntmps23
 go_upto_region 2 with(
  go_at_call 26
  refine HC1.out.mono ?_;rintro e w1 ⟨s0,a1,l1,c1,a2,l2,c2,at1,ty1,fl1,code1,rfl,hc1,b1',hP⟩)
 have z1:=b1'.size;have bC:=aA6 w1 (.cells #[.string s0,.slice a1 l1 c1,.slice a2 l2 c2] 49) (.cells #[.int .i64 at1,.string ty1,.string fl1,.int .i64 code1] 51);have n0:((w1.alloc (.cells #[.string s0,.slice a1 l1 c1,.slice a2 l2 c2] 49)).alloc (.cells #[.int .i64 at1,.string ty1,.string fl1,.int .i64 code1] 51)).heap[w1.heap.size]?=some (.cells #[.string s0,.slice a1 l1 c1,.slice a2 l2 c2] 49 (0,0)):=by
  rw[(aA2 _ _).block _ (by simp)]
  exact aA3 _ _ rfl
 have n1:((w1.alloc (.cells #[.string s0,.slice a1 l1 c1,.slice a2 l2 c2] 49)).alloc (.cells #[.int .i64 at1,.string ty1,.string fl1,.int .i64 code1] 51)).heap[w1.heap.size+1]?=some (.cells #[.int .i64 at1,.string ty1,.string fl1,.int .i64 code1] 51 (0,0)):=aA3 _ _ (by simp)
 have HN0:=aA0 n0;have HN1:=aA0 n1;have HZ1:Hid (w.heap.size<=w1.heap.size∧w1.heap.size+1<((w1.alloc (.cells #[.string s0,.slice a1 l1 c1,.slice a2 l2 c2] 49)).alloc (.cells #[.int .i64 at1,.string ty1,.string fl1,.int .i64 code1] 51)).heap.size):=aA0 ⟨z1,by simp⟩
 have HP1:Hid (b1=true->PRep ((w1.alloc (.cells #[.string s0,.slice a1 l1 c1,.slice a2 l2 c2] 49)).alloc (.cells #[.int .i64 at1,.string ty1,.string fl1,.int .i64 code1] 51)) (·<w1.heap.size) (allM ps) (.agg #[.string s0,.slice a1 l1 c1])):=aA0 fun h=>(hP h).mono fun b hb=>bC.block b hb;generalize (w1.alloc (.cells #[.string s0,.slice a1 l1 c1,.slice a2 l2 c2] 49)).alloc (.cells #[.int .i64 at1,.string ty1,.string fl1,.int .i64 code1] 51)=X at*;have bX:=b1'.trans (bC.mono z1);have HK1:=aA0 hc1;clear hP bC b1' n0 n1 z1 hc1;have HC2':=aA0 (HC2.out X bX);clear HC1 HC2;go_upto_region 3 with(
  go_at_call 26
  refine HC2'.out.mono ?_;rintro e w2 ⟨s0',a1',l1',c1',a2',l2',c2',at2,ty2,fl2,code2,rfl,hc2,b2',hP'⟩)
 have z2:=b2'.size;have bD:=aA6 w2 (.cells #[.string s0',.slice a1' l1' c1',.slice a2' l2' c2'] 49) (.cells #[.int .i64 at2,.string ty2,.string fl2,.int .i64 code2] 51);have n0:((w2.alloc (.cells #[.string s0',.slice a1' l1' c1',.slice a2' l2' c2'] 49)).alloc (.cells #[.int .i64 at2,.string ty2,.string fl2,.int .i64 code2] 51)).heap[w2.heap.size]?=some (.cells #[.string s0',.slice a1' l1' c1',.slice a2' l2' c2'] 49 (0,0)):=by
  rw[(aA2 _ _).block _ (by simp)]
  exact aA3 _ _ rfl
 have n1:((w2.alloc (.cells #[.string s0',.slice a1' l1' c1',.slice a2' l2' c2'] 49)).alloc (.cells #[.int .i64 at2,.string ty2,.string fl2,.int .i64 code2] 51)).heap[w2.heap.size+1]?=some (.cells #[.int .i64 at2,.string ty2,.string fl2,.int .i64 code2] 51 (0,0)):=aA3 _ _ (by simp)
 have HM0:=aA0 n0;have HM1:=aA0 n1;have HZ2:Hid (X.heap.size<=w2.heap.size∧w2.heap.size+1<((w2.alloc (.cells #[.string s0',.slice a1' l1' c1',.slice a2' l2' c2'] 49)).alloc (.cells #[.int .i64 at2,.string ty2,.string fl2,.int .i64 code2] 51)).heap.size):=aA0 ⟨z2,by simp⟩
 have HP2:Hid (b2=true->PRep ((w2.alloc (.cells #[.string s0',.slice a1' l1' c1',.slice a2' l2' c2'] 49)).alloc (.cells #[.int .i64 at2,.string ty2,.string fl2,.int .i64 code2] 51)) (·<w2.heap.size) (allM qs) (.agg #[.string s0',.slice a1' l1' c1'])):=aA0 fun h=>(hP' h).mono fun b hb=>bD.block b hb;generalize (w2.alloc (.cells #[.string s0',.slice a1' l1' c1',.slice a2' l2' c2'] 49)).alloc (.cells #[.int .i64 at2,.string ty2,.string fl2,.int .i64 code2] 51)=Y at*;have bXY:=b2'.trans (bD.mono z2);have HXY:=aA0 bXY;have HBY:=aA0 (bX.trans (bXY.mono bX.size));have HK2:=aA0 hc2;clear hP' bD b2' HC2' n0 n1 z2 hc2 bXY bX;have HRO':=aA0 (HRO.out Y HBY.out);go_upto_region 4 with(
  go_at_call 16
  refine HRO'.out.mono ?_;rintro e w3 ⟨ra,rn,rc,rfl,b3'⟩)
 have HFB:Hid (Below w.heap.size w w3):=aA0 (HBY.out.trans (b3'.mono HBY.out.size));have z3:=b3'.size;have k1:=HZ1.out;have k2:=HZ2.out;have m0:w3.heap[w1.heap.size]?=_:=(b3'.block w1.heap.size (by omega)).trans ((HXY.out.block w1.heap.size (by omega)).trans HN0.out)
 have m1:w3.heap[w1.heap.size+1]?=_:=(b3'.block (w1.heap.size+1) (by omega)).trans ((HXY.out.block (w1.heap.size+1) (by omega)).trans HN1.out)
 have m2:w3.heap[w2.heap.size]?=_:=(b3'.block w2.heap.size (by omega)).trans HM0.out
 have m3:w3.heap[w2.heap.size+1]?=_:=(b3'.block (w2.heap.size+1) (by omega)).trans HM1.out
 have HQ1:Hid (b1=true->PRep w3 (·<w2.heap.size) (allM ps) (.agg #[.string s0,.slice a1 l1 c1])):=aA0 fun h=>(((HP1.out h).under (HXY.out.mono (by omega))).under (b3'.mono (by omega))).sub fun b (hb:b<w1.heap.size)=>show b<w2.heap.size by omega
 have HQ2:Hid (b2=true->PRep w3 (·<w2.heap.size) (allM qs) (.agg #[.string s0',.slice a1' l1' c1'])):=aA0 fun h=>(HP2.out h).under (b3'.mono (by omega))
 have HZ3:Hid (w2.heap.size<=w3.heap.size):=aA0 (by omega)
 have HPC:Hid (b1=true->b2=true->Calls Tryz.prog 44 #[.agg #[.string s0,.slice a1 l1 c1],.agg #[.string s0',.slice a1' l1' c1']] w3 fun e w'=>∃ra rc,e=.returned (.slice ra L.length rc)∧Below w3.heap.size w3 w'):=aA0 fun h1 h2=>HPB.out h1 h2 w3 w2.heap.size _ _ (HQ1.out h1) (HQ2.out h2) HZ3.out;obtain⟨p0,-⟩:=aA1 m0 0 (by simp)
 obtain⟨p1,-⟩:=aA1 m0 1 (by simp)
 obtain⟨q0,-⟩:=aA1 m2 0 (by simp)
 obtain⟨q1,-⟩:=aA1 m2 1 (by simp)
 obtain⟨p3,-⟩:=aA1 m1 3 (by simp)
 obtain⟨q3,-⟩:=aA1 m3 3 (by simp)
 simp only[List.getElem_toArray,List.getElem_cons_zero,List.getElem_cons_succ] at p0 p1 p3 q0 q1 q3;clear m0 m1 m2 m3 HN0 HN1 HM0 HM1 HXY HBY HP1 HP2 HPB HQ1 HQ2 HRO HRO' b3' z3 k1 k2 HZ1 HZ2 HZ3;have hc1:=HK1.out;have hc2:=HK2.out;cases b1
 ·have hd1:=beq_eq_false_iff_ne.1 hc1;go_wp2_with fail
  go_ret
  exact⟨by simp[hc1],HFB.out⟩
 have e1:=beq_iff_eq.1 hc1;subst e1;cases b2
 ·have hd2:=beq_eq_false_iff_ne.1 hc2;go_wp2_with fail
  go_ret
  exact⟨by simp[hc2],HFB.out⟩
 have e2:=beq_iff_eq.1 hc2;subst e2;cases b3
 ·go_wp2_with fail
  go_ret
  exact⟨rfl,HFB.out⟩
 have HPD:=aA0 (HPC.out (by trivial) (by trivial))
 clear HPC hc1 hc2 HK1 HK2;go_wp2_with (
  go_at_call 44
  refine HPD.out.mono ?_;rintro e w4 ⟨ga,gc,rfl,b4⟩)
 go_ret
 exact⟨by rw[HN.out]<;>rfl,HFB.out.trans (b4.mono HFB.out.size)⟩
set_option maxRecDepth 20000 in
set_option maxHeartbeats 3200000 in
theorem aHB(ps qs:List Pt)(w:World)(ra rb:Option Addr)(rc rd:Nat)(hR:aAP w (·<w.heap.size) ps ra)(hQ:aAP w (·<w.heap.size) qs rb)(hG:GErr w):
  Calls Tryz.prog 6 #[.slice ra ps.length rc,.slice rb qs.length rd] w fun e w'=>e=.returned (.bool true)∧Below w.heap.size w w':=by
 have HTP:=aA0 (fun W (hb:Below w.heap.size w W)=>aKR ps W w.heap.size ra rc (hR.under hb) hb.size);have HTQ:=aA0 (fun W (hb:Below w.heap.size w W)=>aKR qs W w.heap.size rb rd (hQ.under hb) hb.size);have HPz:=aA0 (aJR ps w w.heap.size ra rc 1048576 hR (Nat.le_refl _) (by omega) (by omega))
 have HQz:=aA0 (fun W (hb:Below w.heap.size w W) (left:Int) (h0:0<=left) (h1:left<=1048576)=>aJR qs W w.heap.size rb rd left (hQ.under hb) hb.size h0 h1);have HGE:=aA0 (fun W (hb:Below w.heap.size w W)=>hG.onR hb);clear hR hQ hG;go_enter Tryz.func6,Tryz.ntmps6
 go_wp2_with fail
 refine HPz.out.mono ?_;rintro e w1 ⟨y,rfl,hy0,hy1,hy2,x1⟩;have HY:=aA0 hy2;clear hy2 HPz;by_cases hy:y<0
 ·go_wp2_with fail
  go_ret
  exact⟨rfl,x1⟩
 have HZE:=aA0 (aMT (ps:=ps) (by have:=HY.out (by omega);omega))
 have HQz1:=aA0 (HQz.out w1 x1 y (by omega) (by omega))
 have HYL:Hid (y<=1048576):=aA0 (by omega)
 clear HY hy0 hy1 HQz;go_wp2_with fail
 refine HQz1.out.mono ?_;rintro e w2 ⟨z,rfl,hz0,hz1,hz2,b2⟩;have x2:=x1.trans (b2.mono x1.size);have HZ:=aA0 hz2;have HZY:Hid (z<=y):=aA0 hz1;clear hz1 hz2 HQz1 b2;by_cases hz:z<0
 ·go_wp2_with fail
  go_ret
  exact⟨rfl,x2⟩
 have HZF:=aA0 (aMT (ps:=qs) (by have:=HZ.out (by omega);have:=HYL.out;omega))
 clear HZ HZY HYL hz0;obtain⟨sb,HSB⟩:∃x,Hid (aPV ps qs=x):=⟨_,aA0 rfl⟩;have HSPEC:Hid (∀(W:World) Lo Lo' B B' a a' c c',aAP W (fun b=>Lo<=b∧b<B) ps a->aAP W (fun b=>Lo'<=b∧b<B') qs a'->B<=W.heap.size->B'<=W.heap.size->Calls Tryz.prog 23 #[.slice a ps.length c,.slice a' qs.length c'] W fun e w'=>e=.returned (.bool sb)∧Below W.heap.size W w'):=aA0 fun W Lo Lo' B B' a a' c c' h h' hB hB'=>by
  have:=aK4 ps qs W Lo Lo' B B' a a' c c' h h' hB hB' HZE.out HZF.out;unfold aHQ at this;rw[HSB.out] at this;exact this
 have HIMPL:Hid (∀(W:World) B a a',aAP W (·<B) ps a->aAP W (·<B) qs a'->B<=W.heap.size->GErr W->Calls Tryz.prog 24 #[.slice a ps.length ps.length,.slice a' qs.length qs.length] W fun e w'=>e=.returned (.bool sb)∧Below W.heap.size W w'):=aA0 fun W B a a' h h' hB hG=>by
  have:=aK2 ps qs W B a a' ps.length qs.length (Nat.le_refl _) (Nat.le_refl _) h h' hB HZE.out HZF.out hG;unfold aHQ at this;rw[HSB.out] at this;exact this
 have HEQP:=aA0 (fun W B a a' (h1:aAP W (·<B) ps a) (h2:aAP W (·<B) ps a') (hB:B<=W.heap.size)=>aJC ps W B a a' ps.length ps.length h1 h2 hB);have HEQQ:=aA0 (fun W B a a' (h1:aAP W (·<B) qs a) (h2:aAP W (·<B) qs a') (hB:B<=W.heap.size)=>aJC qs W B a a' qs.length qs.length h1 h2 hB);clear HZE HZF HSB;have hsb:(sb !=sb)=false:=by simp
 go_wp2_with fail
 refine(HTP.out w2 x2).mono ?_;rintro e w3 ⟨rfl,b3,z3,hP3,-⟩;have x3:=x2.trans (b3.mono x2.size);have HP3:=aA0 hP3;clear hP3 b3 z3;go_wp2_with fail
 refine(HTQ.out w3 x3).mono ?_;rintro e w4 ⟨rfl,b4,z4,hQ4,-⟩;have x4:=x3.trans (b4.mono x3.size);have HSp:=aA0 (HSPEC.out w4 w2.heap.size w3.heap.size w3.heap.size w4.heap.size _ _ ps.length qs.length (HP3.out.mono fun b hb=>b4.block b hb.2) hQ4 b4.size (Nat.le_refl _));clear hQ4 b4 z4 HP3 HSPEC;go_wp2_with fail
 refine HSp.out.mono ?_;rintro e w5 ⟨rfl,b5⟩;have x5:=x4.trans (b5.mono x4.size);clear HSp b5;go_wp2_with fail
 refine(HTP.out w5 x5).mono ?_;rintro e w6 ⟨rfl,b6,z6,hP6,-⟩;have x6:=x5.trans (b6.mono x5.size);have HP6:=aA0 hP6;clear hP6 b6 z6;go_wp2_with fail
 refine(HTQ.out w6 x6).mono ?_;rintro e w7 ⟨rfl,b7,z7,hQ7,-⟩;have x7:=x6.trans (b7.mono x6.size);have HP7:=aA0 ((HP6.out.mono fun b hb=>b7.block b hb.2).sub fun b (hb:w5.heap.size<=b∧b<w6.heap.size)=>show b<w7.heap.size by omega)
 have HQ7:=aA0 (hQ7.sub fun b (hb:w6.heap.size<=b∧b<w7.heap.size)=>show b<w7.heap.size from hb.2)
 have HIm:=aA0 (HIMPL.out w7 w7.heap.size _ _ HP7.out HQ7.out (Nat.le_refl _) (HGE.out w7 x7));clear hQ7 b7 z7 HP6 HIMPL HGE;go_wp2_with fail
 refine HIm.out.mono ?_;rintro e w8 ⟨rfl,b8⟩;have x8:=x7.trans (b8.mono x7.size);have HP8:=aA0 (HP7.out.under b8);have HQ8:=aA0 (HQ7.out.under b8);have hz78:=b8.size;clear HIm HP7 HQ7 b8;go_wp2_with fail
 refine(HTP.out w8 x8).mono ?_;rintro e w9 ⟨rfl,b9,z9,hP9,-⟩;have x9:=x8.trans (b9.mono x8.size);have hz89:=b9.size;have HE1:=aA0 (HEQP.out w9 w9.heap.size _ _ ((HP8.out.under (b9.mono hz78)).sub fun b (hb:b<w7.heap.size)=>show b<w9.heap.size by omega) (hP9.sub fun b hb=>hb.2) (Nat.le_refl _))
 have HQ9:=aA0 (HQ8.out.under (b9.mono hz78));clear hP9 HEQP HP8 HQ8 b9 z9;go_wp2_with fail
 refine HE1.out.mono ?_;rintro e w10 ⟨rfl,b10⟩;have x10:=x9.trans (b10.mono x9.size);have hz910:=b10.size;have HQ10:=aA0 (HQ9.out.under (b10.mono (by omega)))
 clear HE1 HQ9 b10;go_wp2_with fail
 refine(HTQ.out w10 x10).mono ?_;rintro e w11 ⟨rfl,b11,z11,hQ11,-⟩;have x11:=x10.trans (b11.mono x10.size);have hz1011:=b11.size;have HE2:=aA0 (HEQQ.out w11 w11.heap.size _ _ ((HQ10.out.under (b11.mono (by omega))).sub fun b (hb:b<w7.heap.size)=>show b<w11.heap.size by omega) (hQ11.sub fun b hb=>hb.2) (Nat.le_refl _))
 clear hQ11 HEQQ HQ10 b11 z11;go_wp2_with fail
 refine HE2.out.mono ?_;rintro e w12 ⟨rfl,b12⟩;have x12:=x11.trans (b12.mono x11.size);clear HE2;go_wp2_with fail
 go_ret
 exact⟨rfl,x12⟩
end Go.Proofs.YtcebpkeiaiiphaaGreatDoor
