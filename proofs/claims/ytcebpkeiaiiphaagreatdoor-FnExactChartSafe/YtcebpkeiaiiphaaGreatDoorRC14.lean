import Derived.Test.YtcebpkeiaiiphaaGreatDoorRC12
set_option linter.unusedSimpArgs false
set_option linter.unusedVariables false
namespace Go.Proofs.YtcebpkeiaiiphaaGreatDoor
open Go.RowKit Go.Maps
attribute [local go_sem] Oper.semAt_some
theorem aVT:(Tryz.prog.info? 3).map (fun i=>(i.zero,i.size,i.bytes))=some (some (.int .i64 0),1,8):=by kernel_rfl
theorem aOM(p:Pt)(nm n:ByteArray):getF p nm n=sayF p nm n:=by
 unfold getF sayF;split
 ·rfl
 ·rename_i h;rw[aA5,if_neg h];rfl
theorem aTM(p:Pt)(nm n:ByteArray):getB p nm n=sayB p nm n:=by
 unfold getB sayB;by_cases h:0<=aAR p nm
 ·simp[h]
 ·have e:aAB T.zero n=-1:=by simp[aAB,T.zero,aA9]
  rw[aA5,if_neg h,e];simp[h]
def fval(f:F)(na:Option Addr)(nc:Nat):Value:=.agg #[.string f.name,.string f.of,.bool f.list,.bool f.must,.bool f.far,.bool f.hidden,.bool f.shared,.slice na f.needs.length nc]
theorem aDH(p:Pt)(nm n:ByteArray)(w:World)(B:Nat)(v:Value)(hP:PRep w (·<B) p v)(hB:B<=w.heap.size):
  Calls Tryz.prog 38 #[v,.string nm,.string n] w fun e w'=>∃(na:Option Addr) (nc:Nat),e=.returned (.tuple #[fval (sayF p nm n) na nc,.bool (sayB p nm n)])∧Below w.heap.size w w'∧FRep w' (·<B) (sayF p nm n) (fval (sayF p nm n) na nc):=
 (aMM p nm n w B v hP hB).mono fun e w' h=>by
  obtain⟨n1,o1,l1,m1,f1,h1,s1,na,nc,he,hb,hf⟩:=h;rw[aOM] at hf;have hf':=hf;obtain⟨na',nc',hv',-⟩:=hf;rw[aOM,aTM] at he;rw[hv'] at he hf';exact⟨na',nc',he,hb,hf'⟩
set_option maxHeartbeats 1600000 in
theorem aNY(f g:F)(na ma:Option Addr)(nc mc:Nat)(w:World):
  Calls Tryz.prog 100 #[fval f na nc,fval g ma mc] w fun e w'=>e=.returned (.bool (aHW f g))∧Below w.heap.size w w':=by
 have bX:=aA6 w (.cells #[.string f.name,.string f.of,.bool f.list,.bool f.must,.bool f.far,.bool f.hidden,.bool f.shared,.slice na f.needs.length nc] 80) (.cells #[.string g.name,.string g.of,.bool g.list,.bool g.must,.bool g.far,.bool g.hidden,.bool g.shared,.slice ma g.needs.length mc] 80);have n0:((w.alloc (.cells #[.string f.name,.string f.of,.bool f.list,.bool f.must,.bool f.far,.bool f.hidden,.bool f.shared,.slice na f.needs.length nc] 80)).alloc (.cells #[.string g.name,.string g.of,.bool g.list,.bool g.must,.bool g.far,.bool g.hidden,.bool g.shared,.slice ma g.needs.length mc] 80)).heap[w.heap.size]?=some (.cells #[.string f.name,.string f.of,.bool f.list,.bool f.must,.bool f.far,.bool f.hidden,.bool f.shared,.slice na f.needs.length nc] 80 (0,0)):=by
  rw[(aA2 _ _).block _ (by simp)]
  exact aA3 _ _ rfl
 have n1:((w.alloc (.cells #[.string f.name,.string f.of,.bool f.list,.bool f.must,.bool f.far,.bool f.hidden,.bool f.shared,.slice na f.needs.length nc] 80)).alloc (.cells #[.string g.name,.string g.of,.bool g.list,.bool g.must,.bool g.far,.bool g.hidden,.bool g.shared,.slice ma g.needs.length mc] 80)).heap[w.heap.size+1]?=some (.cells #[.string g.name,.string g.of,.bool g.list,.bool g.must,.bool g.far,.bool g.hidden,.bool g.shared,.slice ma g.needs.length mc] 80 (0,0)):=aA3 _ _ (by simp)
 have x1:=(aA1 n0 1 (by simp)).1
 have x2:=(aA1 n0 2 (by simp)).1
 have x3:=(aA1 n0 3 (by simp)).1
 have y1:=(aA1 n1 1 (by simp)).1
 have y2:=(aA1 n1 2 (by simp)).1
 have y3:=(aA1 n1 3 (by simp)).1
 simp only[List.getElem_toArray,List.getElem_cons_zero,List.getElem_cons_succ] at x1 x2 x3 y1 y2 y3;have HE:Hid (aHW f g=((f.of.toList==g.of.toList)&&(f.list==g.list)&&(f.must==g.must))):=aA0 rfl;unfold fval;obtain⟨fn,fo,fl,fm,ff,fh,fs,fd⟩:=f;obtain⟨gn,go,gl,gm,gf,gh,gs,gd⟩:=g;simp only at x1 x2 x3 y1 y2 y3 HE bX ⊢;clear n0 n1;cases h1:(fo.toList==go.toList)<;>cases fl<;>cases gl<;>cases fm<;>cases gm;all_goals
  go_enter Tryz.func100,Tryz.ntmps100
  go_wp2_with fail
  go_ret
  exact⟨by rw[HE.out,h1];rfl,bX⟩
def RowI(base:Nat)(w:World)(v:Value)(l:List Nat):Prop:=w.ownsRow base 3 1 v l.length (l.map fun(n:Nat)=>Value.int .i64 (n:Int))
theorem aFJ(ps:List Pt)(nm n:ByteArray):∀k,(aBU ps nm n k).length<=k
 |0=>by simp[aBU]
 |k+1=>by
  have:=aFJ ps nm n k;rw[aBU,List.length_append];split<;>simp<;>omega
set_option maxRecDepth 20000 in
set_option maxHeartbeats 1600000 in
theorem aI3(ps:List Pt)(nm n:ByteArray)(w:World)(B:Nat)(a:Option Addr)(c:Nat)(hR:aAP w (·<B) ps a)(hB:B<=w.heap.size):
  Calls Tryz.prog 50 #[.slice a ps.length c,.string nm,.string n] w fun e w'=>∃oa oc,e=.returned (.slice oa (aAW ps nm n).length oc)∧RowI w.heap.size w' (.slice oa (aAW ps nm n).length oc) (aAW ps nm n)∧Below w.heap.size w w':=by
 obtain⟨i3,hi3,hy0,hy1,hy2⟩:=info_parts aVT;have h40:=hR.1;have HR:=aA0 hR;have HBL:=aA0 hB;clear hR hB;have bX:=aA2 w (.cells #[] 3);have nX:=aA3 (w:=w) #[] 3 rfl;have hO:RowI w.heap.size (w.alloc (.cells #[] 3)) (.slice (some ⟨w.heap.size,0,none⟩) 0 0) []:=⟨rfl,Or.inr ⟨w.heap.size,0,_,rfl,Nat.le_refl _,nX,Nat.le_refl _,by unfold maxLen;omega,rfl,rfl⟩⟩
 have HO:=aA0 hO;clear hO nX;go_enter Tryz.func50,Tryz.ntmps50
 go_wp2_with fail
 generalize w.alloc (.cells #[] 3)=Z at*;go_loopw [7,8] (fun y i wr=>∃(k:Nat) (L:List Nat) (oa:Option Addr) (oc:Nat),k<=ps.length∧y=.slice oa L.length oc∧i=.int .i64 k∧Hid (aBU ps nm n k=L)∧Hid (RowI w.heap.size wr (.slice oa L.length oc) L)∧Below w.heap.size w wr) (fun _ i _=>ps.length- (intOf i).toNat)
 case atStart=>exact⟨0,[],_,0,Nat.zero_le _,rfl,rfl,aA0 rfl,HO,bX⟩
 case round=>
  obtain⟨k,L,oa,oc,hk,rfl,rfl,HL,HRW,hb⟩:=hrel;obtain⟨w0,rfl⟩:∃x,x=wr:=⟨wr,rfl⟩;have zb:=hb.size;by_cases hlt:k<ps.length
  case neg=>
   have e:k=ps.length:=by omega
   subst e;go_wp2_with fail
   go_ret
   unfold aAW;rw[HL.out];exact⟨oa,oc,rfl,HRW.out,hb⟩
  have hki:(k:Int)<(ps.length:Int):=by omega
  obtain⟨pb,po,ta,tc,rfl,hpB,q0,q1,hP⟩:=(HR.out.under (hb.mono HBL.out)).at k hlt;have hLl:L.length<=k:=by rw[<-HL.out];exact aFJ _ _ _ _
  have HSU:Hid (aBU ps nm n (k+1)=L++if aGF (pth ps k) nm n=true then[k] else[]):=aA0 (by rw[aBU,HL.out])
  have HG:=aA0 (aDH (pth ps k) nm n w0 B _ hP (by have:=HBL.out;omega))
  clear hP;unfold aGF at HSU;generalize pth ps k=p at*;generalize sayF p nm n=g at*;generalize sayB p nm n=kn at*;obtain⟨gn,gof,gl,gm,gfr,gh,gs,gd⟩:=g;simp only[fval] at HG HSU;have HOW:Hid (∀W,Below w0.heap.size w0 W->RowI w.heap.size W (.slice oa L.length oc) L):=aA0 fun W hW=>aAE HRW.out hW;cases kn
  ·have HN:Hid (aBU ps nm n (k+1)=L):=aA0 (by rw[HSU.out];simp)
   go_wp2_with (go_at_call 38;refine HG.out.mono ?_;rintro e w1 ⟨na,nc,rfl,hb1,-⟩;have b01:=fun o=>hb1.trans ((aA2 w1 o).mono hb1.size))
   go_roundw
   case measure=>simp[intOf];omega
   case rel=>exact⟨k+1,L,oa,oc,by omega,by simp,by go_num,HN,aA0 (HOW.out _ (b01 _)),hb.trans ((b01 _).mono zb)⟩
  cases gfr
  rotate_left
  ·have HN:Hid (aBU ps nm n (k+1)=L):=aA0 (by rw[HSU.out];simp)
   go_wp2_with (go_at_call 38;refine HG.out.mono ?_;rintro e w1 ⟨na,nc,rfl,hb1,-⟩;have b01:=fun o=>hb1.trans ((aA2 w1 o).mono hb1.size))
   go_roundw
   case measure=>simp[intOf];omega
   case rel=>exact⟨k+1,L,oa,oc,by omega,by simp,by go_num,HN,aA0 (HOW.out _ (b01 _)),hb.trans ((b01 _).mono zb)⟩
  ·have HN:Hid (aBU ps nm n (k+1)=L++[k]):=aA0 (by rw[HSU.out];simp)
   go_wp2_with (first
    |(go_at_call 38;refine HG.out.mono ?_;rintro e w1 ⟨na,nc,rfl,hb1,-⟩;have z1:=hb1.size;have b02:=fun o o'=>hb1.trans ((aA6 w1 o o').mono hb1.size))
    |(
     at_builtin
     refine wpList_append_lies _ rfl _ _ _ rfl w.heap.size 3 i3 (.int .i64 0) 1 8 Tryz.underlying76 hi3 hy0 hy1 hy2 rfl (by decide) (.slice oa L.length oc) L.length (L.map fun(n:Nat)=>Value.int .i64 (n:Int)) rfl (HOW.out _ (b02 _ _)) ⟨w1.heap.size+1,0,none⟩ 1 1 [.int .i64 (k:Int)] rfl rfl (World.news_of_block (aA3 _ _ (by simp))) (by intro u hu;simp at hu;subst hu;rfl) (by omega) (by unfold maxLen;omega) (by omega) (by simp;omega) _ rfl ?_
     intro g cap wP hown hgrow hat hltP;have HN2:=aA0 (And.intro hown ((hb.trans ((b02 _ _).mono zb)).grown hgrow (by simp;omega) (fun j hj=>(HRW.out.lt j hj).1)))
     clear hown hgrow hat))
   go_roundw
   case measure=>simp[intOf];omega
   case rel=>
    refine⟨k+1,L++[k],some ⟨g,0,none⟩,cap,by omega,by simp,by go_num,HN,aA0 ?_,HN2.out.2⟩
    unfold RowI;simp only[List.length_append,List.length_singleton,List.map_append,List.map_cons,List.map_nil];exact HN2.out.1
set_option maxRecDepth 20000 in
set_option maxHeartbeats 1600000 in
theorem aJX(ps:List Pt)(nm:ByteArray)(w:World)(B:Nat)(a:Option Addr)(c:Nat)(hR:aAP w (·<B) ps a)(hB:B<=w.heap.size):
  Calls Tryz.prog 69 #[.slice a ps.length c,.string nm] w fun e w'=>e=.returned (.string (keyM ps nm))∧Below w.heap.size w w':=by
 have h40:=hR.1;have HR:=aA0 hR;have HBL:=aA0 hB;clear hR hB;go_enter Tryz.func69,Tryz.ntmps69
 go_wp2_with fail
 go_loopw [5] (fun i wr=>∃k:Nat,k<=ps.length∧i=.int .i64 k∧Hid (∀j,j<k->(!(aA5 (pth ps j) nm).key.toList.isEmpty)=false)∧Below w.heap.size w wr) (fun i _=>ps.length- (intOf i).toNat)
 case atStart=>exact⟨0,Nat.zero_le _,rfl,aA0 fun j hj=>by omega,Below.refl _ _⟩
 case round=>
  obtain⟨k,hk,rfl,HN,hb⟩:=hrel;obtain⟨w0,rfl⟩:∃x,x=wr:=⟨wr,rfl⟩;have zb:=hb.size;by_cases hlt:k<ps.length
  case neg=>
   have e:k=ps.length:=by omega
   subst e;have HE:Hid (keyM ps nm=ByteArray.empty):=aA0 (by
    have h1:aOC ps nm=-1:=aB3 HN.out;rw[keyM,h1];simp)
   go_wp2_with fail
   go_ret
   exact⟨by rw[HE.out];rfl,hb⟩
  have hki:(k:Int)<(ps.length:Int):=by omega
  obtain⟨pb,po,ta,tc,rfl,hpB,q0,q1,hP⟩:=(HR.out.under (hb.mono HBL.out)).at k hlt;have hT:=aDO (pth ps k) w0 B _ nm hP (by have:=HBL.out;omega)
  have HTX:Hid (aAR (pth ps k) nm=aA9 (fun i=>(tth (pth ps k).types i).name.toList==nm.toList) (pth ps k).types.length):=aA0 rfl;rw[<-HTX.out] at hT;rcases aA8 (fun i=>(tth (pth ps k).types i).name.toList==nm.toList) (pth ps k).types.length with⟨hx,-⟩| ⟨g,hx,hg,-,-⟩
  ·rw[<-HTX.out] at hx;have HK:Hid ((!(aA5 (pth ps k) nm).key.toList.isEmpty)=false):=aA0 (by rw[aA5,if_neg (by rw[hx];omega)];simp[T.zero,ByteArray.toList_eq])
   rw[hx] at hT;have HT:=aA0 hT;clear hT hP hx;go_wp2_with (go_at_call 62;refine HT.out.mono ?_;rintro e w1 ⟨rfl,hb1⟩)
   go_roundw
   case measure=>simp[intOf];omega
   case rel=>
    refine⟨k+1,by omega,by go_num,aA0 fun j hj=>?_,hb.trans (hb1.mono zb)⟩
    by_cases e:j=k
    ·subst e;exact HK.out
    ·exact HN.out j (by omega)
  ·rw[<-HTX.out] at hx;have hto:aA5 (pth ps k) nm=tth (pth ps k).types g:=by rw[aA5,if_pos (by rw[hx];omega),hx];rfl
   have HTO:=aA0 hto;rw[hx] at hT;have HT:=aA0 hT;obtain⟨ta',tc',e,hTs,-⟩:=hP;simp only[Value.agg.injEq,Array.mk.injEq,List.cons.injEq,Value.slice.injEq,true_and,and_true] at e;obtain⟨rfl,rfl⟩:=e;obtain⟨tb,toff,fa,fc,rfl,htr,hcs⟩:=hTs.at (by have:=HBL.out;omega) g hg
   have hgi:(g:Int)<((pth ps k).types.length:Int):=by omega
   obtain⟨ky,hky⟩:∃ky,ky=(tth (pth ps k).types g).key:=⟨_,rfl⟩;have HC:Hid (∀W,Below w0.heap.size w0 W->W.cell? ⟨pb,po+k*2+1,none⟩=some (.slice (some ⟨tb,toff,none⟩) (pth ps k).types.length tc)∧W.cell? ⟨tb,toff+g*3+1,none⟩=some (.string ky)):=aA0 fun W hW=>⟨(hW.cell (p:=⟨pb,po+k*2+1,none⟩) (by show pb<_;have:=HBL.out;omega)).trans q1,by rw[hky];exact(hcs W hW).2.1⟩
   have HKY:Hid ((aA5 (pth ps k) nm).key=ky):=aA0 (by rw[HTO.out,hky])
   clear hT hx hto hTs htr hcs hky;generalize (pth ps k).types.length=tl at*;cases hke:ky.toList.isEmpty
   ·have HE:Hid (keyM ps nm=ky):=aA0 (by
     have h1:aOC ps nm=k:=aAX HN.out (by rw[HKY.out,hke];rfl) hlt
     rw[keyM,h1,if_pos (by omega)]
     simpa using HKY.out)
    go_wp2_with (go_at_call 62;refine HT.out.mono ?_;rintro e w1 ⟨rfl,hb1⟩;obtain⟨x0,x1⟩:=HC.out w1 hb1)
    go_ret
    exact⟨by rw[HE.out]<;>rfl,hb.trans (hb1.mono zb)⟩
   ·have HK:Hid ((!(aA5 (pth ps k) nm).key.toList.isEmpty)=false):=aA0 (by rw[HKY.out,hke];rfl)
    go_wp2_with (go_at_call 62;refine HT.out.mono ?_;rintro e w1 ⟨rfl,hb1⟩;obtain⟨x0,x1⟩:=HC.out w1 hb1)
    go_roundw
    case measure=>simp[intOf];omega
    case rel=>
     refine⟨k+1,by omega,by go_num,aA0 fun j hj=>?_,hb.trans (hb1.mono zb)⟩
     by_cases e:j=k
     ·subst e;exact HK.out
     ·exact HN.out j (by omega)
end Go.Proofs.YtcebpkeiaiiphaaGreatDoor
