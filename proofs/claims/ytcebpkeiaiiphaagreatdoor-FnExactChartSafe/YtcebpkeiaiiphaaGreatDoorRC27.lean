import Derived.Test.YtcebpkeiaiiphaaGreatDoorRC25
set_option linter.unusedSimpArgs false
set_option linter.unusedVariables false
namespace Go.Proofs.YtcebpkeiaiiphaaGreatDoor
open Go.RowKit Go.Maps
attribute [local go_sem] Oper.semAt_some aFQ
theorem fin4{w W:World}{b:Nat}{x0 x1 x2 x3:Value}(v0 v1 v2 v3:Value)(h1:W.heap[b]?=some (.cells #[x0,x1,x2,x3] 51 (0,0)))(h2:Below w.heap.size w W)(h3:w.heap.size<=b):
  Below w.heap.size w ((((W.setCell ⟨b,0,none⟩ v0).setCell ⟨b,1,none⟩ v1).setCell ⟨b,2,none⟩ v2).setCell ⟨b,3,none⟩ v3)∧((((W.setCell ⟨b,0,none⟩ v0).setCell ⟨b,1,none⟩ v1).setCell ⟨b,2,none⟩ v2).setCell ⟨b,3,none⟩ v3).heap[b]?=some (.cells #[v0,v1,v2,v3] 51 (0,0)):=by
 refine⟨(((h2.setCell (p:=⟨b,0,none⟩) h3 _).setCell (p:=⟨b,1,none⟩) h3 _).setCell (p:=⟨b,2,none⟩) h3 _).setCell (p:=⟨b,3,none⟩) h3 _,?_⟩;rw[aAC (aAC (aAC (aAC h1 0 v0) 1 v1) 2 v2) 3 v3];rfl
def aUY(w:World)(ok:Bool)(e:Ending)(w':World):Prop:=∃(at':Int) (ty fl:ByteArray) (code:Int),e=.returned (.agg #[.int .i64 at',.string ty,.string fl,.int .i64 code])∧(code=0↔ok=true)∧Below w.heap.size w w'
theorem aM8{ps:List Pt}{okp:Pt->Bool}{k:Nat}(hk:k<ps.length)(h:aF3 ps okp k=false):aBV ps okp=false:=by
 unfold aBV;rw[aAJ hk h];simp
theorem aMI{ps:List Pt}{okp:Pt->Bool}{k j:Nat}(hk:k<ps.length)(hj:j<(pth ps k).types.length)(h:aC7 ps (tth (pth ps k).types j)=false):aBV ps okp=false:=by
 unfold aBV;rw[aAJ (q:=fun i=>aA7 (fun k=>aC7 ps (tth (pth ps i).types k)) (pth ps i).types.length) hk (aAJ hj h)];simp
theorem aNA{ps:List Pt}{t:T}{n:Nat}(hn:n<t.fields.length)(h:aB0 ps t.name (fth t.fields n)≠0):aC7 ps t=false:=by
 unfold aC7;rw[aAJ hn (show(aB0 ps t.name (fth t.fields n)==0)=false by simpa using h)]
 simp
theorem aNX{ps:List Pt}{okp:Pt->Bool}{k j:Nat}(hj:j<k)(h:((pth ps j).name.toList==(pth ps k).name.toList)=true):aF3 ps okp k=false:=by
 unfold aF3;rw[aAJ hj (by rw[h];rfl)]
 simp
theorem aBJ.atH{w:World}{B:Nat}{fs:List F}{a:Option Addr}(h:aBJ w (·<B) fs a)(n:Nat)(hn:n<fs.length):
  ∃(b off:Nat) (na:Option Addr) (nc:Nat),a=some ⟨b,off,none⟩∧b<B∧(∀j,j<8->w.cell? ⟨b,off+n*8+j,none⟩=some ([Value.string (fth fs n).name,.string (fth fs n).of,.bool (fth fs n).list,.bool (fth fs n).must,.bool (fth fs n).far,.bool (fth fs n).hidden,.bool (fth fs n).shared,.slice na (fth fs n).needs.length nc].getD j undef))∧Strs w (·<B) (fth fs n).needs na∧16*(fth fs n).needs.length<=281474976710656:=by
 obtain⟨-,C,hA,hr⟩:=h;obtain⟨b,off,rfl,hb,hc⟩:=hA (by omega)
 obtain⟨na,nc,e,h1,h2,-,-,h3⟩:=hr n hn;refine⟨b,off,na,nc,rfl,hb,fun j hj=>?_,h1,h3⟩;rw[hc n hn j hj];simp only[Value.agg.injEq,Array.mk.injEq,List.cons.injEq,and_true] at e;obtain⟨e0,e1,e2,e3,e4,e5,e6,e7⟩:=e;rcases j with _| _| _| _| _| _| _| _| j
 ·simp[e0]
 ·simp[e1]
 ·simp[e2]
 ·simp[e3]
 ·simp[e4]
 ·simp[e5]
 ·simp[e6]
 ·simp[e7]
 ·omega
set_option maxRecDepth 20000 in
set_option maxHeartbeats 3200000 in
theorem aO1(ps:List Pt)(w:World)(B:Nat)(a:Option Addr)(c:Nat)(hR:aAP w (·<B) ps a)(hB:B<=w.heap.size)(hz:∀i,i<ps.length->szP (pth ps i)<=1048576):
  Calls Tryz.prog 47 #[.slice a ps.length c] w fun e w'=>aUY w (aBV ps okP) e w':=by
 have h40:=hR.1;have HR:=aA0 hR;have HBL:=aA0 hB;have HSZ:=aA0 hz;clear hR hB hz;have bX:=aA2 w (.cells #[.int .i64 0,.string ⟨#[]⟩,.string ⟨#[]⟩,.int .i64 0] 51);have zX:(w.alloc (.cells #[.int .i64 0,.string ⟨#[]⟩,.string ⟨#[]⟩,.int .i64 0] 51)).heap.size=w.heap.size+1:=by simp
 have nX:=aA3 (w:=w) #[.int .i64 0,.string ⟨#[]⟩,.string ⟨#[]⟩,.int .i64 0] 51 rfl;have HPO:=aA0 (rfl:aBV ps okP=aBV ps okP);obtain⟨ok,hok⟩:∃ok,ok=aBV ps okP:=⟨_,rfl⟩;have HEA:Hid (∀k,k<ps.length->aF3 ps okP k=false->ok=false):=aA0 fun k hk h=>by rw[hok];exact aM8 hk h
 have HTY:Hid (∀k j,k<ps.length->j<(pth ps k).types.length->aC7 ps (tth (pth ps k).types j)=false->ok=false):=aA0 fun k j hk hj h=>by rw[hok];exact aMI hk hj h
 have HLN:Hid ((ps.length=0∨4<ps.length)->ok=false):=aA0 fun h=>by
  rw[hok];unfold aBV;rcases h with h| h
  ·simp[h]
  ·have:¬ps.length<=4:=by omega
   simp[this]
 have HALL:Hid (0<ps.length->ps.length<=4->aA7 (aF3 ps okP) ps.length=true->aA7 (fun i=>aA7 (fun k=>aC7 ps (tth (pth ps i).types k)) (pth ps i).types.length) ps.length=true->ok=true):=aA0 fun h1 h2 h3 h4=>by
  rw[hok];unfold aBV;rw[h3,h4];simp[h1,h2]
 rw[<-hok];clear hok HPO;go_enter Tryz.func47,Tryz.ntmps47
 by_cases hlen:ps.length=0∨4<ps.length
 ·have HE:=aA0 (HLN.out hlen);have HZ:Hid (∀W,W=w.alloc (.cells #[.int .i64 0,.string ⟨#[]⟩,.string ⟨#[]⟩,.int .i64 0] 51)->W.heap[w.heap.size]?=some (.cells #[.int .i64 0,.string ⟨#[]⟩,.string ⟨#[]⟩,.int .i64 0] 51 (0,0))∧Below w.heap.size w W):=aA0 fun W e=>by rw[e];exact⟨nX,bX⟩
  obtain⟨r0,f0⟩:=aA1 nX 0 (by simp)
  obtain⟨r1,f1⟩:=aA1 nX 1 (by simp)
  obtain⟨r2,f2⟩:=aA1 nX 2 (by simp)
  obtain⟨r3,f3⟩:=aA1 nX 3 (by simp)
  rcases hlen with hl0| hl4
  ·have hps:ps.length=0:=hl0;rw[hps];go_wp2_with fail
   refine bodyPost_ret (v:=.agg #[.int .i64 0,.string ⟨#[]⟩,.string ⟨#[]⟩,.int .i64 8]) (by simp[results,Tryz.results47,go_sem]) rfl ?_
   rw[HE.out];exact⟨0,_,_,8,rfl,by simp,aA2 w _⟩
  ·have h0:((ps.length:Int)==0)=false:=beq_eq_false_iff_ne.2 (by omega)
   have h4:(4:Int)<(ps.length:Int):=by omega
   go_wp2_with fail
   refine bodyPost_ret (v:=.agg #[.int .i64 0,.string ⟨#[]⟩,.string ⟨#[]⟩,.int .i64 8]) (by simp[results,Tryz.results47,go_sem]) rfl ?_
   rw[HE.out];exact⟨0,_,_,8,rfl,by simp,aA2 w _⟩
 have h0:((ps.length:Int)==0)=false:=beq_eq_false_iff_ne.2 (by omega)
 have h4:¬(4:Int)<(ps.length:Int):=by omega
 have HAL2:=aA0 (HALL.out (by omega) (by omega))
 have hl4:ps.length<=4:=by omega
 clear HALL HLN hlen;go_wp2_with fail
 generalize w.alloc (.cells #[.int .i64 0,.string ⟨#[]⟩,.string ⟨#[]⟩,.int .i64 0] 51)=Z at*;have HZ:Hid (∀W,Below Z.heap.size Z W->W.heap[w.heap.size]?=some (.cells #[.int .i64 0,.string ⟨#[]⟩,.string ⟨#[]⟩,.int .i64 0] 51 (0,0))∧Below w.heap.size w W):=aA0 fun W hW=>⟨(hW.block _ (by omega)).trans nX,bX.trans (hW.mono (by omega))⟩
 clear nX;go_loopw [3] (fun i wr=>∃k:Nat,k<=ps.length∧i=.int .i64 k∧Hid (aA7 (aF3 ps okP) k=true)∧Below Z.heap.size Z wr) (fun i _=>ps.length- (intOf i).toNat)
 case atStart=>exact⟨0,Nat.zero_le _,rfl,aA0 rfl,Below.refl _ _⟩
 case round=>
  obtain⟨k,hk,rfl,HK,hb⟩:=hrel;obtain⟨w0,rfl⟩:∃x,x=wr:=⟨wr,rfl⟩;have zb:=hb.size;obtain⟨hbox,hbw⟩:=HZ.out w0 hb;by_cases hlt:k<ps.length
  ·have hki:(k:Int)<(ps.length:Int):=by omega
   obtain⟨pb,po,ta,tc,rfl,hpB,q0,q1,hP⟩:=(HR.out.under (hbw.mono HBL.out)).at k hlt;have HPC:=aA0 (aD9 (pth ps k) w0 B _ hP (by have:=HBL.out;omega) (HSZ.out k hlt))
   have HKO:=aA0 (aE9 (pth ps k));have HEK:=aA0 (HEA.out k hlt);have HEB:Hid (aF3 ps okP k=(okP (pth ps k)&&aA7 (fun j=>!((pth ps j).name.toList==(pth ps k).name.toList)) k)):=aA0 rfl;have HTW:Hid (∀j,j<k->((pth ps j).name.toList==(pth ps k).name.toList)=true->ok=false):=aA0 fun j hj h=>HEK.out (aNX hj h);have HPK:Hid (∀W,Below w0.heap.size w0 W->W.cell? ⟨pb,po+k*2,none⟩=some (.string (pth ps k).name)):=aA0 fun W hW=>(hW.cell (aAA q0)).trans q0;have HPJ:Hid (∀j,j<ps.length->∀W,Below w.heap.size w W->W.cell? ⟨pb,po+j*2,none⟩=some (.string (pth ps j).name)):=aA0 fun j hj W hW=>by
    obtain⟨pb',po',ta',tc',e,-,q0',-⟩:=(HR.out.under (hW.mono HBL.out)).at j hj;simp only[Option.some.injEq,Addr.mk.injEq,and_true] at e;obtain⟨rfl,rfl⟩:=e;exact q0'
   clear hP;generalize hpk:pth ps k=p at*;have HPP:=aA0 hpk;clear hpk;generalize aCQ p=pf at*;obtain⟨pa,pc⟩:=pf;simp only at HPC HKO;by_cases hpc:pc=0
   case neg=>
    have hpb:(pc==0)=false:=by simpa using hpc
    have hpn:(pc !=0)=true:=by simpa using hpc
    have HE:Hid (ok=false):=aA0 (HEK.out (by
     rw[HEB.out];cases ho:okP p
     ·rfl
     ·exact absurd (HKO.out.2 ho) hpc))
    have HZ1:Hid (∀W,Below w0.heap.size w0 W->Below Z.heap.size Z W):=aA0 fun W hW=>hb.trans (hW.mono zb);go_wp2_with (go_at_call 49;refine HPC.out.mono ?_;rintro e w1 ⟨rfl,hb1⟩;obtain⟨r0,f0⟩:=aA1 (HZ.out w1 (HZ1.out w1 hb1)).1 0 (by simp);obtain⟨r1,f1⟩:=aA1 (HZ.out w1 (HZ1.out w1 hb1)).1 1 (by simp);obtain⟨r2,f2⟩:=aA1 (HZ.out w1 (HZ1.out w1 hb1)).1 2 (by simp);obtain⟨r3,f3⟩:=aA1 (HZ.out w1 (HZ1.out w1 hb1)).1 3 (by simp))
    obtain⟨hf1,hf2⟩:=fin4 (.int .i64 ((k:Int)+1)) (.string ⟨#[]⟩) (.string ⟨#[]⟩) (.int .i64 1) (HZ.out w1 (HZ1.out w1 hb1)).1 (HZ.out w1 (HZ1.out w1 hb1)).2 (Nat.le_refl _);have cx0:=(aA1 hf2 0 (by simp)).1
    have cx1:=(aA1 hf2 1 (by simp)).1
    have cx2:=(aA1 hf2 2 (by simp)).1
    have cx3:=(aA1 hf2 3 (by simp)).1
    simp only[List.getElem_toArray,List.getElem_cons_zero,List.getElem_cons_succ] at cx0 cx1 cx2 cx3;refine bodyPost_ret (v:=.agg #[.int .i64 ((k:Int)+1),.string ⟨#[]⟩,.string ⟨#[]⟩,.int .i64 1]) (by simp[results,Tryz.results47,go_sem,cx0,cx1,cx2,cx3]) rfl ?_
    rw[HE.out];exact⟨_,_,_,1,rfl,by simp,hf1⟩
   subst hpc;have HOK:=aA0 (HKO.out.1 rfl);go_wp2_with (go_at_call 49;refine HPC.out.mono ?_;rintro e w1 ⟨rfl,hb1⟩)
   go_loopw [4] (fun i wr=>∃j:Nat,j<=k∧i=.int .i64 j∧Hid (aA7 (fun j=>!((pth ps j).name.toList==p.name.toList)) j=true)∧Below w0.heap.size w0 wr) (fun i _=>k- (intOf i).toNat)
   case atStart=>exact⟨0,Nat.zero_le _,rfl,aA0 rfl,hb1⟩
   case round=>
    obtain⟨j,hj,rfl,HJ,hb2⟩:=hrel;obtain⟨w2,rfl⟩:∃x,x=wr:=⟨wr,rfl⟩;have zb2:=hb2.size;by_cases hjk:j<k
    case neg=>
     have ej:j=k:=by omega
     subst ej;have HK1:Hid (aA7 (aF3 ps okP) (j+1)=true):=aA0 (by rw[aA7,HK.out,HEB.out,HOK.out,HJ.out];rfl)
     go_wp2_with fail
     go_roundw
     case measure=>simp[intOf];omega
     case rel=>exact⟨j+1,by omega,by go_num,HK1,hb.trans (hb2.mono zb)⟩
    have hjki:(j:Int)<(k:Int):=by omega
    have hjli:(j:Int)<(ps.length:Int):=by omega
    obtain⟨p2,hp2⟩:∃p2,p2=pth ps j:=⟨_,rfl⟩;have HCN:Hid (∀W,Below w2.heap.size w2 W->W.cell? ⟨pb,po+j*2,none⟩=some (.string p2.name)∧W.cell? ⟨pb,po+k*2,none⟩=some (.string p.name)):=aA0 fun W hW=>by
     have h1:=hb2.trans (hW.mono zb2);refine⟨?_,HPK.out W h1⟩;rw[hp2];exact HPJ.out j (by omega) W (hbw.trans (h1.mono hbw.size))
    have HNX:Hid (aA7 (fun j=>!((pth ps j).name.toList==p.name.toList)) (j+1)=(!(p2.name.toList==p.name.toList))):=aA0 (by rw[aA7,HJ.out,Bool.true_and,hp2])
    have HTJ:Hid ((p2.name.toList==p.name.toList)=true->ok=false):=aA0 fun h=>HTW.out j hjk (by rw[<-hp2];exact h)
    clear hp2;have hbD:Below Z.heap.size Z w2.drew:=hb.trans ((hb2.trans ((Below.refl _ _).drew.mono zb2)).mono zb);cases heq:(p2.name.toList==p.name.toList)
    ·have HJ1:=aA0 (HNX.out.trans (by rw[heq]<;>rfl))
     go_wp2_with fail
     refine wp_region_held_drew (S:=(fun w'=>w'.cell? ⟨pb,po+j*2,none⟩=some (.string p2.name)∧w'.cell? ⟨pb,po+k*2,none⟩=some (.string p.name))) (by kernel_rfl) (HCN.out _ (Below.refl _ _).drew) (fun hHeld=>?_)
     refine tkH 0 hHeld ?_;refine tkH 1 hHeld ?_;refine tkH 2 hHeld ?_;refine tkH 3 hHeld ?_;refine tkH 4 hHeld ?_;refine tkH 5 hHeld ?_;refine tkH 6 hHeld ?_;refine tkH 7 hHeld ?_;refine tkH 8 hHeld ?_;refine tkH 9 hHeld ?_;refine tkH 10 hHeld ?_;refine wpAnyH_done (by kernel_rfl) ?_ _
     go_wp2_with fail
     go_roundw
     case measure=>simp[intOf];omega
     case rel=>exact⟨j+1,by omega,by go_num,HJ1,hb2.trans ((Below.refl _ _).drew.mono zb2)⟩
    ·have HE:=aA0 (HTJ.out heq);go_wp2_with fail
     refine wp_region_held_drew (S:=(fun w'=>w'.cell? ⟨pb,po+j*2,none⟩=some (.string p2.name)∧w'.cell? ⟨pb,po+k*2,none⟩=some (.string p.name))) (by kernel_rfl) (HCN.out _ (Below.refl _ _).drew) (fun hHeld=>?_)
     refine tkH 0 hHeld ?_;refine tkH 1 hHeld ?_;refine tkH 2 hHeld ?_;refine tkH 3 hHeld ?_;refine tkH 4 hHeld ?_;refine tkH 5 hHeld ?_;refine tkH 6 hHeld ?_;refine tkH 7 hHeld ?_;refine tkH 8 hHeld ?_;refine tkH 9 hHeld ?_;refine tkH 10 hHeld ?_;refine wpAnyH_done (by kernel_rfl) ?_ _
     generalize w2.drew=wD at*;obtain⟨r0,f0⟩:=aA1 (HZ.out wD hbD).1 0 (by simp)
     obtain⟨r1,f1⟩:=aA1 (HZ.out wD hbD).1 1 (by simp)
     obtain⟨r2,f2⟩:=aA1 (HZ.out wD hbD).1 2 (by simp)
     obtain⟨r3,f3⟩:=aA1 (HZ.out wD hbD).1 3 (by simp)
     simp only[List.getElem_toArray,List.getElem_cons_zero,List.getElem_cons_succ] at r0 r1 r2 r3;go_wp2_with fail
     obtain⟨hf1,hf2⟩:=fin4 (.int .i64 ((k:Int)+1)) (.string ⟨#[]⟩) (.string ⟨#[]⟩) (.int .i64 2) (HZ.out wD hbD).1 (HZ.out wD hbD).2 (Nat.le_refl _);have cx0:=(aA1 hf2 0 (by simp)).1
     have cx1:=(aA1 hf2 1 (by simp)).1
     have cx2:=(aA1 hf2 2 (by simp)).1
     have cx3:=(aA1 hf2 3 (by simp)).1
     simp only[List.getElem_toArray,List.getElem_cons_zero,List.getElem_cons_succ] at cx0 cx1 cx2 cx3;refine bodyPost_ret (v:=.agg #[.int .i64 ((k:Int)+1),.string ⟨#[]⟩,.string ⟨#[]⟩,.int .i64 2]) (by simp[results,Tryz.results47,go_sem,cx0,cx1,cx2,cx3]) rfl ?_
     rw[HE.out];exact⟨_,_,_,2,rfl,by simp,hf1⟩
  have ek:k=ps.length:=by omega
  subst ek;have HAL3:=aA0 (HAL2.out HK.out);clear HAL2 HK HEA hbox;obtain⟨qT,hqT⟩:∃qT,qT=fun i=>aA7 (fun k=>aC7 ps (tth (pth ps i).types k)) (pth ps i).types.length:=⟨_,rfl⟩;rw[<-hqT] at HAL3;have HQT:Hid (∀i,qT i=aA7 (fun k=>aC7 ps (tth (pth ps i).types k)) (pth ps i).types.length):=aA0 fun i=>by rw[hqT]
  clear hqT;go_wp2_with fail
  go_loopw [5] (fun i wr=>∃k:Nat,k<=ps.length∧i=.int .i64 k∧Hid (aA7 qT k=true)∧Below Z.heap.size Z wr) (fun i _=>ps.length- (intOf i).toNat)
  case atStart=>exact⟨0,Nat.zero_le _,rfl,aA0 rfl,hb⟩
  case round=>
   clear hb zb hbw;clear w0;obtain⟨k,hk,rfl,HK,hb⟩:=hrel;obtain⟨w0,rfl⟩:∃x,x=wr:=⟨wr,rfl⟩;have zb:=hb.size;obtain⟨hbox,hbw⟩:=HZ.out w0 hb;by_cases hlt:k<ps.length
   case neg=>
    have ek:k=ps.length:=by omega
    subst ek;have HE:=aA0 (HAL3.out HK.out);obtain⟨r0,f0⟩:=aA1 (HZ.out w0 hb).1 0 (by simp)
    obtain⟨r1,f1⟩:=aA1 (HZ.out w0 hb).1 1 (by simp)
    obtain⟨r2,f2⟩:=aA1 (HZ.out w0 hb).1 2 (by simp)
    obtain⟨r3,f3⟩:=aA1 (HZ.out w0 hb).1 3 (by simp)
    simp only[List.getElem_toArray,List.getElem_cons_zero,List.getElem_cons_succ] at r0 r1 r2 r3;go_wp2_with fail
    obtain⟨hf1,hf2⟩:=fin4 (.int .i64 0) (.string ⟨#[]⟩) (.string ⟨#[]⟩) (.int .i64 0) (HZ.out w0 hb).1 (HZ.out w0 hb).2 (Nat.le_refl _);have cx0:=(aA1 hf2 0 (by simp)).1
    have cx1:=(aA1 hf2 1 (by simp)).1
    have cx2:=(aA1 hf2 2 (by simp)).1
    have cx3:=(aA1 hf2 3 (by simp)).1
    simp only[List.getElem_toArray,List.getElem_cons_zero,List.getElem_cons_succ] at cx0 cx1 cx2 cx3;refine bodyPost_ret (v:=.agg #[.int .i64 0,.string ⟨#[]⟩,.string ⟨#[]⟩,.int .i64 0]) (by simp[results,Tryz.results47,go_sem,cx0,cx1,cx2,cx3]) rfl ?_
    rw[HE.out];exact⟨_,_,_,0,rfl,by simp,hf1⟩
   have hki:(k:Int)<(ps.length:Int):=by omega
   obtain⟨pb,po,ta,tc,rfl,hpB,q0,q1,hP⟩:=(HR.out.under (hbw.mono HBL.out)).at k hlt;have HTK:=aA0 (fun j=>HTY.out k j hlt);have HQK:=aA0 (HQT.out k);have HPT:Hid (∀W,Below w0.heap.size w0 W->W.cell? ⟨pb,po+k*2+1,none⟩=some (.slice ta (pth ps k).types.length tc)):=aA0 fun W hW=>(hW.cell (aAA q1)).trans q1;have HTS:Hid (aDA w0 (·<B) (pth ps k).types ta):=aA0 (by
    obtain⟨ta',tc',e,h1,-⟩:=hP;simp only[Value.agg.injEq,Array.mk.injEq,List.cons.injEq,Value.slice.injEq,true_and,and_true] at e;obtain⟨rfl,rfl⟩:=e;exact h1)
   clear hP q0;generalize (pth ps k).types=ts at*;go_wp2_with fail
   clear q1;go_loopw [6] (fun i wr=>∃j:Nat,j<=ts.length∧i=.int .i64 j∧Hid (aA7 (fun j=>aC7 ps (tth ts j)) j=true)∧Below w0.heap.size w0 wr) (fun i _=>ts.length- (intOf i).toNat)
   case atStart=>exact⟨0,Nat.zero_le _,rfl,aA0 rfl,Below.refl _ _⟩
   case round=>
    obtain⟨j,hj,rfl,HJ,hb2⟩:=hrel;obtain⟨w2,rfl⟩:∃x,x=wr:=⟨wr,rfl⟩;have zb2:=hb2.size;have q1:=HPT.out w2 hb2;by_cases hjl:j<ts.length
    case neg=>
     have ej:j=ts.length:=by omega
     subst ej;have HK1:Hid (aA7 qT (k+1)=true):=aA0 (by rw[aA7,HK.out,HQK.out,HJ.out];rfl)
     go_wp2_with fail
     go_roundw
     case measure=>simp[intOf];omega
     case rel=>exact⟨k+1,by omega,by go_num,HK1,hb.trans (hb2.mono zb)⟩
    have hjli:(j:Int)<(ts.length:Int):=by omega
    obtain⟨tb,toff,fa,fc,rfl,htr,hcs⟩:=HTS.out.at (by have:=HBL.out;have:=hbw.size;omega) j hjl
    obtain⟨t0,t1,t2⟩:=hcs w2 hb2;have HTF:=aA0 (HTK.out j hjl);have HTJ:Hid (aA7 (fun j=>aC7 ps (tth ts j)) (j+1)=aC7 ps (tth ts j)):=aA0 (by rw[aA7,HJ.out,Bool.true_and])
    have HFS:Hid (aBJ w0 (·<B) (tth ts j).fields fa):=aA0 (by
     obtain⟨fa',fc',e,h1,-⟩:=htr;simp only[Value.agg.injEq,Array.mk.injEq,List.cons.injEq,Value.slice.injEq,true_and,and_true] at e;obtain⟨rfl,rfl⟩:=e;exact h1)
    have h64:=HFS.out.1;have h56:=HTS.out.1;clear htr hcs;generalize tth ts j=t at*;have b23:=aA2 w2 (.cells #[.string t.name,.string t.key,.slice fa t.fields.length fc] 96);have n23:=aA3 (w:=w2) #[.string t.name,.string t.key,.slice fa t.fields.length fc] 96 rfl;have z23:(w2.alloc (.cells #[.string t.name,.string t.key,.slice fa t.fields.length fc] 96)).heap.size=w2.heap.size+1:=by simp
    go_wp2_with fail
    clear t0 t1 t2 q1;generalize w2.alloc (.cells #[.string t.name,.string t.key,.slice fa t.fields.length fc] 96)=w3 at*;have HT:Hid (∀W,Below w3.heap.size w3 W->W.cell? ⟨w2.heap.size,0,none⟩=some (.string t.name)∧W.cell? ⟨w2.heap.size,1,none⟩=some (.string t.key)∧W.cell? ⟨w2.heap.size,2,none⟩=some (.slice fa t.fields.length fc)):=aA0 fun W hW=>by
     have h:=(hW.block _ (by omega)).trans n23
     exact⟨(aA1 h 0 (by simp)).1,(aA1 h 1 (by simp)).1,(aA1 h 2 (by simp)).1⟩
    have b03:=hb2.trans (b23.mono zb2);have HB3:Hid (∀W,Below w3.heap.size w3 W->Below w0.heap.size w0 W∧Below Z.heap.size Z W∧Below w.heap.size w W):=aA0 fun W hW=>by
     have h1:=b03.trans (hW.mono b03.size);exact⟨h1,hb.trans (h1.mono zb),hbw.trans (h1.mono hbw.size)⟩
    have HKE:=aA0 (fun W (hW:Below w3.heap.size w3 W)=>aJX ps t.name W B (some ⟨pb,po,none⟩) c (HR.out.under ((HB3.out W hW).2.2.mono HBL.out)) (Nat.le_trans HBL.out (HB3.out W hW).2.2.size));have HTO:Hid (aC7 ps t=((t.key.toList.isEmpty||(t.key.toList==(keyM ps t.name).toList))&&aA7 (fun n=>aB0 ps t.name (fth t.fields n)==0) t.fields.length)):=aA0 rfl;generalize keyM ps t.name=ky at*;obtain⟨kq,hkq⟩:∃kq,kq=(t.key.toList.isEmpty||(t.key.toList==ky.toList)):=⟨_,rfl⟩;rw[<-hkq] at HTO;clear n23;go_cut [89] (fun r wx=>r=.bool (!kq)∧Below w3.heap.size w3 wx)
    case first=>
     cases hke:t.key.toList.isEmpty
     ·cases hkk:(t.key.toList==ky.toList)
      ·have e1:kq=false:=by rw[hkq,hke,hkk];rfl
       subst e1;clear hkq;refine wp_region_held_drew (S:=(fun w'=>w'.cell? ⟨w2.heap.size,0,none⟩=some (.string t.name)∧w'.cell? ⟨w2.heap.size,1,none⟩=some (.string t.key)∧w'.cell? ⟨w2.heap.size,2,none⟩=some (.slice fa t.fields.length fc))) (by kernel_rfl) (HT.out _ (Below.refl _ _).drew) (fun hHeld=>?_)
       refine tkH 0 hHeld ?_;refine tkH 1 hHeld ?_;refine tkH 2 hHeld ?_;refine tkH 3 hHeld ?_;refine tkH 4 hHeld ?_;refine tkH 5 hHeld ?_;refine tkH 6 hHeld ?_;refine tkH 7 hHeld ?_;refine tkH 8 hHeld ?_;refine rdyH [9] (rcH (fun K hK=>?_) AllReadyH.nil);go_simp
       refine(HKE.out _ (Below.refl _ _).drew).mono ?_;rintro e wz ⟨rfl,hbk⟩;have hbz:Below w3.heap.size w3 wz:=Below.trans (Below.refl _ _).drew (hbk.mono (Nat.le_refl _));refine hK.out _ _ (HT.out wz hbz) (fun hHeld=>?_);clear hK K;try simp only[Act.put,sIA,sI0,sIS]
       refine tkH 10 hHeld ?_;refine tkH 11 hHeld ?_;refine wpAnyH_done (by kernel_rfl) ?_ _
       go_wp2_with fail
       go_meet
       case rel=>exact⟨rfl,hbz⟩
      ·have e1:kq=true:=by rw[hkq,hke,hkk];rfl
       subst e1;clear hkq;refine wp_region_held_drew (S:=(fun w'=>w'.cell? ⟨w2.heap.size,0,none⟩=some (.string t.name)∧w'.cell? ⟨w2.heap.size,1,none⟩=some (.string t.key)∧w'.cell? ⟨w2.heap.size,2,none⟩=some (.slice fa t.fields.length fc))) (by kernel_rfl) (HT.out _ (Below.refl _ _).drew) (fun hHeld=>?_)
       refine tkH 0 hHeld ?_;refine tkH 1 hHeld ?_;refine tkH 2 hHeld ?_;refine tkH 3 hHeld ?_;refine tkH 4 hHeld ?_;refine tkH 5 hHeld ?_;refine tkH 6 hHeld ?_;refine tkH 7 hHeld ?_;refine tkH 8 hHeld ?_;refine rdyH [9] (rcH (fun K hK=>?_) AllReadyH.nil);go_simp
       refine(HKE.out _ (Below.refl _ _).drew).mono ?_;rintro e wz ⟨rfl,hbk⟩;have hbz:Below w3.heap.size w3 wz:=Below.trans (Below.refl _ _).drew (hbk.mono (Nat.le_refl _));refine hK.out _ _ (HT.out wz hbz) (fun hHeld=>?_);clear hK K;try simp only[Act.put,sIA,sI0,sIS]
       refine tkH 10 hHeld ?_;refine tkH 11 hHeld ?_;refine wpAnyH_done (by kernel_rfl) ?_ _
       go_wp2_with fail
       go_meet
       case rel=>exact⟨rfl,hbz⟩
     ·have e1:kq=true:=by rw[hkq,hke];rfl
      subst e1;clear hkq;refine wp_region_held_drew (S:=(fun w'=>w'.cell? ⟨w2.heap.size,0,none⟩=some (.string t.name)∧w'.cell? ⟨w2.heap.size,1,none⟩=some (.string t.key)∧w'.cell? ⟨w2.heap.size,2,none⟩=some (.slice fa t.fields.length fc))) (by kernel_rfl) (HT.out _ (Below.refl _ _).drew) (fun hHeld=>?_)
      refine tkH 0 hHeld ?_;refine tkH 1 hHeld ?_;refine tkH 2 hHeld ?_;refine tkH 3 hHeld ?_;refine tnH 4 hHeld ?_;refine tnH 5 hHeld ?_;refine tnH 6 hHeld ?_;refine tnH 7 hHeld ?_;refine tnH 8 hHeld ?_;refine tnH 9 hHeld ?_;refine tnH 10 hHeld ?_;refine tkH 11 hHeld ?_;refine wpAnyH_done (by kernel_rfl) ?_ _
      go_wp2_with fail
      go_meet
      case rel=>exact⟨rfl,(Below.refl _ _).drew⟩
    case rest=>
    obtain⟨rfl,b34⟩:=hcut;obtain⟨w4',rfl⟩:∃x,x=wc:=⟨wc,rfl⟩;clear hkq HKE;cases kq
    ·have HE:=aA0 (HTF.out (by rw[HTO.out];rfl))
     obtain⟨x0,x1,x2⟩:=HT.out w4' b34;obtain⟨r0,f0⟩:=aA1 (HZ.out w4' (HB3.out w4' b34).2.1).1 0 (by simp)
     obtain⟨r1,f1⟩:=aA1 (HZ.out w4' (HB3.out w4' b34).2.1).1 1 (by simp)
     obtain⟨r2,f2⟩:=aA1 (HZ.out w4' (HB3.out w4' b34).2.1).1 2 (by simp)
     obtain⟨r3,f3⟩:=aA1 (HZ.out w4' (HB3.out w4' b34).2.1).1 3 (by simp)
     simp only[List.getElem_toArray,List.getElem_cons_zero,List.getElem_cons_succ] at r0 r1 r2 r3;go_wp2_with fail
     obtain⟨hf1,hf2⟩:=fin4 (.int .i64 ((k:Int)+1)) (.string t.name) (.string ⟨#[]⟩) (.int .i64 4) (HZ.out w4' (HB3.out w4' b34).2.1).1 (HZ.out w4' (HB3.out w4' b34).2.1).2 (Nat.le_refl _);have cx0:=(aA1 hf2 0 (by simp)).1
     have cx1:=(aA1 hf2 1 (by simp)).1
     have cx2:=(aA1 hf2 2 (by simp)).1
     have cx3:=(aA1 hf2 3 (by simp)).1
     simp only[List.getElem_toArray,List.getElem_cons_zero,List.getElem_cons_succ] at cx0 cx1 cx2 cx3;refine bodyPost_ret (v:=.agg #[.int .i64 ((k:Int)+1),.string t.name,.string ⟨#[]⟩,.int .i64 4]) (by simp[results,Tryz.results47,go_sem,cx0,cx1,cx2,cx3]) rfl ?_
     rw[HE.out];exact⟨_,_,_,4,rfl,by simp,hf1⟩
    have HTO2:Hid (aC7 ps t=aA7 (fun n=>aB0 ps t.name (fth t.fields n)==0) t.fields.length):=aA0 (by rw[HTO.out,Bool.true_and])
    clear HTO;go_wp2_with fail
    go_loopw [8] (fun i wr=>∃n:Nat,n<=t.fields.length∧i=.int .i64 n∧Hid (aA7 (fun n=>aB0 ps t.name (fth t.fields n)==0) n=true)∧Below w3.heap.size w3 wr) (fun i _=>t.fields.length- (intOf i).toNat)
    case atStart=>exact⟨0,Nat.zero_le _,rfl,aA0 rfl,b34⟩
    case round=>
     obtain⟨n,hn,rfl,HN,hb4⟩:=hrel;obtain⟨w4,rfl⟩:∃x,x=wr:=⟨wr,rfl⟩;have zb4:=hb4.size;obtain⟨b04,bZ4,bw4⟩:=HB3.out w4 hb4;obtain⟨x0,-,x2⟩:=HT.out w4 hb4;by_cases hnl:n<t.fields.length
     case neg=>
      have en:n=t.fields.length:=by omega
      subst en;have HJ1:Hid (aA7 (fun j=>aC7 ps (tth ts j)) (j+1)=true):=aA0 (by rw[HTJ.out,HTO2.out,HN.out])
      go_wp2_with fail
      go_roundw
      case measure=>simp[intOf];omega
      case rel=>exact⟨j+1,by omega,by go_num,HJ1,b04⟩
     have hnli:(n:Int)<(t.fields.length:Int):=by omega
     obtain⟨fb,foff,na,nc,rfl,hfB,hfc8,hst,h16⟩:=HFS.out.atH n hnl;have HFF:=aA0 (fun(h:aB0 ps t.name (fth t.fields n)≠0)=>HTF.out (aNA hnl h));have HNX:Hid (aA7 (fun n=>aB0 ps t.name (fth t.fields n)==0) (n+1)=(aB0 ps t.name (fth t.fields n)==0)):=aA0 (by rw[aA7,HN.out,Bool.true_and])
     have HFD:=aA0 (fun W (hW:Below w4.heap.size w4 W)=>aNM ps t.name (fth t.fields n) na nc (.int .i64 (k:Int)) W B (some ⟨pb,po,none⟩) c (HR.out.under ((bw4.trans (hW.mono bw4.size)).mono HBL.out)) (by have:=HBL.out;have:=(bw4.trans (hW.mono bw4.size)).size;omega) (hst.under ((b04.trans (hW.mono b04.size)).mono (by have:=HBL.out;have:=hbw.size;omega))) (by omega) (by omega))
     have hf8:∀j,j<8->w4.cell? ⟨fb,foff+n*8+j,none⟩=w0.cell? ⟨fb,foff+n*8+j,none⟩:=fun j _=>b04.cell (p:=⟨fb,foff+n*8+j,none⟩) (by show fb<_;have:=HBL.out;have:=hbw.size;omega)
     generalize fth t.fields n=f at*;have g0:w4.cell? ⟨fb,foff+n*8,none⟩=some (.string f.name):=(hf8 0 (by omega)).trans (hfc8 0 (by omega))
     have g1:w4.cell? ⟨fb,foff+n*8+1,none⟩=some (.string f.of):=(hf8 1 (by omega)).trans (hfc8 1 (by omega))
     have g2:w4.cell? ⟨fb,foff+n*8+2,none⟩=some (.bool f.list):=(hf8 2 (by omega)).trans (hfc8 2 (by omega))
     have g3:w4.cell? ⟨fb,foff+n*8+3,none⟩=some (.bool f.must):=(hf8 3 (by omega)).trans (hfc8 3 (by omega))
     have g4:w4.cell? ⟨fb,foff+n*8+4,none⟩=some (.bool f.far):=(hf8 4 (by omega)).trans (hfc8 4 (by omega))
     have g5:w4.cell? ⟨fb,foff+n*8+5,none⟩=some (.bool f.hidden):=(hf8 5 (by omega)).trans (hfc8 5 (by omega))
     have g6:w4.cell? ⟨fb,foff+n*8+6,none⟩=some (.bool f.shared):=(hf8 6 (by omega)).trans (hfc8 6 (by omega))
     have g7:w4.cell? ⟨fb,foff+n*8+7,none⟩=some (.slice na f.needs.length nc):=(hf8 7 (by omega)).trans (hfc8 7 (by omega))
     have HCF:Hid (∀W,Below w4.heap.size w4 W->(W.cell? ⟨w2.heap.size,0,none⟩=some (.string t.name)∧W.cell? ⟨w2.heap.size,2,none⟩=some (.slice (some ⟨fb,foff,none⟩) t.fields.length fc))∧W.cell? ⟨fb,foff+n*8,none⟩=some (.string f.name)∧W.cell? ⟨fb,foff+n*8+1,none⟩=some (.string f.of)∧W.cell? ⟨fb,foff+n*8+2,none⟩=some (.bool f.list)∧W.cell? ⟨fb,foff+n*8+3,none⟩=some (.bool f.must)∧W.cell? ⟨fb,foff+n*8+4,none⟩=some (.bool f.far)∧W.cell? ⟨fb,foff+n*8+5,none⟩=some (.bool f.hidden)∧W.cell? ⟨fb,foff+n*8+6,none⟩=some (.bool f.shared)∧W.cell? ⟨fb,foff+n*8+7,none⟩=some (.slice na f.needs.length nc)):=aA0 fun W hW=>⟨⟨(hW.cell (aAA x0)).trans x0,(hW.cell (aAA x2)).trans x2⟩,(hW.cell (aAA g0)).trans g0,(hW.cell (aAA g1)).trans g1,(hW.cell (aAA g2)).trans g2,(hW.cell (aAA g3)).trans g3,(hW.cell (aAA g4)).trans g4,(hW.cell (aAA g5)).trans g5,(hW.cell (aAA g6)).trans g6,(hW.cell (aAA g7)).trans g7⟩;clear hfc8 hf8 hst g0 g1 g2 g3 g4 g5 g6 g7;obtain⟨fcode,hfcd⟩:∃fcode,fcode=aB0 ps t.name f:=⟨_,rfl⟩;rw[<-hfcd] at HFF HNX HFD;clear hfcd;unfold fval at HFD;go_wp2_with fail
     clear x0 x2;go_cut [9] (fun r wx=>r=.int .i64 fcode∧Below w4.heap.size w4 wx)
     case first=>
      refine wp_region_held_drew (S:=(fun w'=>(w'.cell? ⟨w2.heap.size,0,none⟩=some (.string t.name)∧w'.cell? ⟨w2.heap.size,2,none⟩=some (.slice (some ⟨fb,foff,none⟩) t.fields.length fc))∧w'.cell? ⟨fb,foff+n*8,none⟩=some (.string f.name)∧w'.cell? ⟨fb,foff+n*8+1,none⟩=some (.string f.of)∧w'.cell? ⟨fb,foff+n*8+2,none⟩=some (.bool f.list)∧w'.cell? ⟨fb,foff+n*8+3,none⟩=some (.bool f.must)∧w'.cell? ⟨fb,foff+n*8+4,none⟩=some (.bool f.far)∧w'.cell? ⟨fb,foff+n*8+5,none⟩=some (.bool f.hidden)∧w'.cell? ⟨fb,foff+n*8+6,none⟩=some (.bool f.shared)∧w'.cell? ⟨fb,foff+n*8+7,none⟩=some (.slice na f.needs.length nc))) (by kernel_rfl) (HCF.out _ (Below.refl _ _).drew) (fun hHeld=>?_)
      have bX:Below w4.heap.size w4 w4.drew:=(Below.refl _ _).drew;generalize w4.drew=wD at*;refine tkH 0 hHeld ?_;refine tkH 1 hHeld ?_;refine tkH 2 hHeld ?_;refine tkH 3 hHeld ?_;refine tkH 4 hHeld ?_;refine tkH 5 hHeld ?_;refine tkH 6 hHeld ?_;refine tkH 7 hHeld ?_;refine tkH 8 hHeld ?_;refine rdyH [9] ?_;refine rcH (fun K hK=>?_) AllReadyH.nil;go_simp
      refine(HFD.out wD bX).mono ?_;rintro e wK ⟨rfl,bK⟩;have bX:=bX.trans (bK.mono bX.size);refine hK.out _ _ (HCF.out _ bX) (fun hHeld=>?_);clear hK K;try simp only[Act.put,sIA,sI0,sIS]
      refine tkH 10 hHeld ?_;refine wpAnyH_done (by kernel_rfl) ?_ _
      go_wp2_with fail
      go_meet
      case rel=>exact⟨rfl,bX⟩
     case rest=>
     obtain⟨rfl,b45⟩:=hcut;obtain⟨w5,rfl⟩:∃x,x=wc:=⟨wc,rfl⟩;by_cases hfc:fcode=0
     ·subst hfc;have HN1:=aA0 (HNX.out.trans (by rfl))
      go_wp2_with fail
      go_roundw
      case measure=>simp[intOf];omega
      case rel=>exact⟨n+1,by omega,by go_num,HN1,hb4.trans (b45.mono zb4)⟩
     ·have hfb:(fcode==0)=false:=by simpa using hfc
      have hfn:(fcode !=0)=true:=by simpa using hfc
      have HE:=aA0 (HFF.out hfc);have HC7:Hid (∀W,Below w5.heap.size w5 W->W.cell? ⟨w2.heap.size,0,none⟩=some (.string t.name)∧W.cell? ⟨w2.heap.size,2,none⟩=some (.slice (some ⟨fb,foff,none⟩) t.fields.length fc)∧W.cell? ⟨fb,foff+n*8,none⟩=some (.string f.name)):=aA0 fun W hW=>by
       obtain⟨⟨y0,y2⟩,y3,-⟩:=HCF.out W (b45.trans (hW.mono b45.size));exact⟨y0,y2,y3⟩
      have HB5:Hid (∀W,Below w5.heap.size w5 W->Below Z.heap.size Z W):=aA0 fun W hW=>bZ4.trans ((b45.trans (hW.mono b45.size)).mono bZ4.size);have hw2z:w.heap.size<w2.heap.size:=by omega
      have HS7:Hid (∀W,Below w5.heap.size w5 W->∀v0 v1 v2 v3,((((W.setCell ⟨w.heap.size,0,none⟩ v0).setCell ⟨w.heap.size,1,none⟩ v1).setCell ⟨w.heap.size,2,none⟩ v2).setCell ⟨w.heap.size,3,none⟩ v3).cell? ⟨w2.heap.size,0,none⟩=some (.string t.name)∧((((W.setCell ⟨w.heap.size,0,none⟩ v0).setCell ⟨w.heap.size,1,none⟩ v1).setCell ⟨w.heap.size,2,none⟩ v2).setCell ⟨w.heap.size,3,none⟩ v3).cell? ⟨w2.heap.size,2,none⟩=some (.slice (some ⟨fb,foff,none⟩) t.fields.length fc)∧((((W.setCell ⟨w.heap.size,0,none⟩ v0).setCell ⟨w.heap.size,1,none⟩ v1).setCell ⟨w.heap.size,2,none⟩ v2).setCell ⟨w.heap.size,3,none⟩ v3).cell? ⟨fb,foff+n*8,none⟩=some (.string f.name)):=aA0 fun W hW v0 v1 v2 v3=>by
       obtain⟨y0,y2,y3⟩:=HC7.out W hW;have hbl:∀b,b≠w.heap.size->((((W.setCell ⟨w.heap.size,0,none⟩ v0).setCell ⟨w.heap.size,1,none⟩ v1).setCell ⟨w.heap.size,2,none⟩ v2).setCell ⟨w.heap.size,3,none⟩ v3).heap[b]?=W.heap[b]?:=fun b hb=>by
        rw[Below.heap_setCell _ _ _ _ hb,Below.heap_setCell _ _ _ _ hb,Below.heap_setCell _ _ _ _ hb,Below.heap_setCell _ _ _ _ hb]
       exact⟨(World.cell?_of_block (a:=⟨w2.heap.size,0,none⟩) (hbl w2.heap.size (by omega))).trans y0,(World.cell?_of_block (a:=⟨w2.heap.size,2,none⟩) (hbl w2.heap.size (by omega))).trans y2,(World.cell?_of_block (a:=⟨fb,foff+n*8,none⟩) (hbl fb (by have:=HBL.out;omega))).trans y3⟩
      have hkw:IntKind.i64.wrap ((k:Int)+1)=(k:Int)+1:=IntWalk.i64_in _ (by omega)
      go_wp2_with fail
      refine wp_region_held_drew (S:=(fun w'=>w'.cell? ⟨w2.heap.size,0,none⟩=some (.string t.name)∧w'.cell? ⟨w2.heap.size,2,none⟩=some (.slice (some ⟨fb,foff,none⟩) t.fields.length fc)∧w'.cell? ⟨fb,foff+n*8,none⟩=some (.string f.name))) (by kernel_rfl) (HC7.out _ (Below.refl _ _).drew) (fun hHeld=>?_)
      have bX:Below w5.heap.size w5 w5.drew:=(Below.refl _ _).drew;generalize w5.drew=wD at*;obtain⟨r0,f0⟩:=aA1 (HZ.out wD (HB5.out wD bX)).1 0 (by simp)
      obtain⟨r1,f1⟩:=aA1 (HZ.out wD (HB5.out wD bX)).1 1 (by simp)
      obtain⟨r2,f2⟩:=aA1 (HZ.out wD (HB5.out wD bX)).1 2 (by simp)
      obtain⟨r3,f3⟩:=aA1 (HZ.out wD (HB5.out wD bX)).1 3 (by simp)
      simp only[List.getElem_toArray,List.getElem_cons_zero,List.getElem_cons_succ] at r0 r1 r2 r3;refine tkH 0 hHeld ?_;refine tkH 1 hHeld ?_;refine tkH 2 hHeld ?_;refine tkH 3 hHeld ?_;refine tkH 4 hHeld ?_;refine tkH 5 hHeld ?_;refine tkH 6 hHeld ?_;refine tkH 7 hHeld ?_;refine tkH 8 hHeld ?_;refine tkH 9 hHeld ?_;refine tkH 10 hHeld ?_;refine tkH 11 hHeld ?_;refine rdyH [12] ?_;refine rcH (fun K hK=>?_) AllReadyH.nil;go_simp
      refine hK.out _ _ (HS7.out _ bX _ _ _ _) (fun hHeld=>?_);clear hK K;try simp only[Act.put,sIA,sI0,sIS]
      refine wpAnyH_done (by kernel_rfl) ?_ _
      go_wp2_with fail
      obtain⟨hf1,hf2⟩:=fin4 (.int .i64 ((k:Int)+1)) (.string t.name) (.string f.name) (.int .i64 fcode) (HZ.out wD (HB5.out wD bX)).1 (HZ.out wD (HB5.out wD bX)).2 (Nat.le_refl _);have cx0:=(aA1 hf2 0 (by simp)).1
      have cx1:=(aA1 hf2 1 (by simp)).1
      have cx2:=(aA1 hf2 2 (by simp)).1
      have cx3:=(aA1 hf2 3 (by simp)).1
      simp only[List.getElem_toArray,List.getElem_cons_zero,List.getElem_cons_succ] at cx0 cx1 cx2 cx3;refine bodyPost_ret (v:=.agg #[.int .i64 ((k:Int)+1),.string t.name,.string f.name,.int .i64 fcode]) (by simp[results,Tryz.results47,go_sem,cx0,cx1,cx2,cx3]) rfl ?_
      rw[HE.out];exact⟨_,_,_,fcode,rfl,by simp[hfc],hf1⟩
end Go.Proofs.YtcebpkeiaiiphaaGreatDoor
