import Derived.Test.YtokmgbidmnanpaaGreatDoorQ50
import Derived.Test.YtokmgbidmnanpaaGreatDoorQ17
import Derived.Test.YtokmgbidmnanpaaGreatDoorQ24
import Derived.Test.YtokmgbidmnanpaaGreatDoorQ13
import Derived.Test.YtokmgbidmnanpaaGreatDoorQ51
import Derived.Test.YtokmgbidmnanpaaGreatDoorQ34
import Derived.Test.YtokmgbidmnanpaaGreatDoorQ23
import Derived.Test.YtokmgbidmnanpaaGreatDoorQ45
import Derived.Test.YtokmgbidmnanpaaGreatDoorQ37
import Derived.Test.YtokmgbidmnanpaaGreatDoorQ27
set_option linter.unusedSimpArgs false
set_option linter.unusedVariables false
namespace Go.Proofs.YtokmgbidmnanpaaGreatDoor
open Go.RowKit Go.Shelf Go.Maps
theorem aP4(FW:World)(tmps:Array Value)(N:Nat)(v0 v1:Value)(h4:tmps.getD 2 undef=.pointer (some ⟨N,0,none⟩))
  (d0:FW.cell? ⟨N,0,none⟩=some v0) (d1:FW.cell? ⟨N,1,none⟩=some v1):
  (results Tryz.f54 tmps).run Tryz.prog FW=.ok (.agg #[v0,v1]) FW:=by
 simp only[Array.getD_eq_getD_getElem?] at h4
 simp[results,Tryz.results54,go_sem,h4,d0,d1]
def aRS(w:World)(A B:Nat)(e:Ending)(w':World):Prop:=∃(p:Pt) (v:Value),e=.returned v∧PRep w' (fun b=>(A≤b∧b<B)∨(w.heap.size≤b∧b<w'.heap.size)) p v∧szP p≤1048576∧aLE p∧0<p.types.length∧Below w.heap.size w w'
theorem aNU{w w':World}{σL:Sh}{tb:Nat}(h1:σL tb=some (52,4))(h2:Wf w' σL bdL)(h3:∀b T n,σL b=some (T,n)→w.heap.size≤b)(h4:∀i,i<4→∃fa fl fc,w'.cell? ⟨tb,i*3+2,none⟩=some (.slice fa fl fc)∧0<fl):
  ∃p:Pt,PRep w' (fun b=>w.heap.size≤b∧b<w'.heap.size) p (.agg #[.string ⟨#[97,108,108]⟩,.slice (some ⟨tb,0,none⟩) 4 4])∧szP p≤1048576∧aLE p∧0<p.types.length:=by
 have hL:Laid w w' σL bdL ⟨#[97,108,108]⟩ tb 0 4 4 4:=⟨h2,h3,h1,by omega,by omega,by omega,by decide,by decide,by decide⟩
 obtain⟨p,hP,hz⟩:=hL.partN
 rw[Nat.zero_mul] at hP
 have hP0:=hP
 obtain⟨ta,tc,e,⟨-,C,hA,hr⟩,-,-⟩:=hP0
 simp only[Value.agg.injEq,Array.mk.injEq,List.cons.injEq,and_true,Value.slice.injEq] at e
 obtain⟨-,rfl,e4,-⟩:=e
 have e4':p.types.length=4:=by omega
 refine⟨p,hP,by omega,fun i hi=>?_,by omega⟩
 obtain⟨b,off,e5,-,hc⟩:=hA (by omega)
 cases e5
 obtain⟨fa,fl,fc,h5,h6⟩:=h4 i (by omega)
 obtain⟨fa',fc',e6,-⟩:=hr i hi
 simp only[Value.agg.injEq,Array.mk.injEq,List.cons.injEq,and_true] at e6
 have h7:=hc i hi 2 (by omega)
 rw[Nat.zero_add,h5,e6.2.2] at h7
 simp only[Option.some.injEq,Value.slice.injEq] at h7
 omega
set_option maxRecDepth 20000 in
set_option maxHeartbeats 3200000 in
theorem aQK(ps:List Pt)(w:World)(A B:Nat)(a:Option Addr)(c:Nat)(hR:aCR w (fun b=>A≤b∧b<B) ps a)(hB:B≤w.heap.size)(hz:∀i,i<ps.length→szP (pth ps i)≤1048576):
  Calls Tryz.prog 54 #[.slice a ps.length c] w fun e w'=>aRS w A B e w':=by
 have HMK:=aA0 (fun W (hW:Below w.heap.size w W)=>aK7 ps W A B a c (hR.underA (hW.mono hB)) (Nat.le_trans hB hW.size) hz)
 have HBL:=aA0 hB
 have HOKP:Hid (aKV ps okP=true→szP (allM ps)≤1048576∧aLE (allM ps)∧0<(allM ps).types.length):=aA0 fun h=>by
  have h2:aKV ps okP=(aBO ps okP&&okP (allM ps)):=by first| rfl| (unfold aKV;rfl)
  rw[h2,Bool.and_eq_true] at h
  exact⟨Nat.le_trans (aS9 _ h.2).1 (by omega),fun i hi=>(aKL (aQS h.2 hi)).1,(aT8 h.2).1⟩
 clear hR hB hz
 have bX:=aA2 w (.cells #[.string ⟨#[]⟩,.slice none 0 0] 43)
 have nX:=aA3 (w:=w) (N:=w.heap.size) #[.string ⟨#[]⟩,.slice none 0 0] 43 rfl
 have hX1:w.heap.size<(w.alloc (.cells #[.string ⟨#[]⟩,.slice none 0 0] 43)).heap.size:=by simp
 go_enter Tryz.func54,Tryz.ntmps54
 go_upto_if 12 with(
  go_at_call 98
  refine(HMK.out _ bX).mono ?_
  rintro e w1 ⟨s0,a1,l1,c1,a2,l2,c2,at',ty,fl,code,rfl,hcode,b1,hok⟩)
 obtain⟨N,hN⟩:∃x,x=w.heap.size:=⟨_,rfl⟩
 have z1:=b1.size
 have nX1:=(b1.block w.heap.size hX1).trans nX
 have nC:((w1.alloc (.cells #[.string s0,.slice a1 l1 c1,.slice a2 l2 c2] 138)).alloc (.cells #[.int .i64 at',.string ty,.string fl,.int .i64 code] 140)).heap[w1.heap.size]?=some (.cells #[.string s0,.slice a1 l1 c1,.slice a2 l2 c2] 138 (0,0)):=((aA2 _ _).block w1.heap.size (by simp)).trans (aA3 _ _ rfl)
 have bC:=aA5 w1 (.cells #[.string s0,.slice a1 l1 c1,.slice a2 l2 c2] 138) (.cells #[.int .i64 at',.string ty,.string fl,.int .i64 code] 140)
 generalize (w1.alloc (.cells #[.string s0,.slice a1 l1 c1,.slice a2 l2 c2] 138)).alloc (.cells #[.int .i64 at',.string ty,.string fl,.int .i64 code] 140)=w3 at*
 have z3:=bC.size
 have nX3:=(bC.block w.heap.size (by omega)).trans nX1
 have b3:Below w.heap.size w w3:=bX.trans ((b1.trans (bC.mono z1)).mono (by omega))
 have HS:Hid (∀W v0 v1,w3.heap.size≤W.heap.size→Below w3.heap.size w3 W→((W.setCell ⟨w.heap.size,0,none⟩ v0).setCell ⟨w.heap.size,1,none⟩ v1).cell? ⟨w.heap.size,0,none⟩=some v0∧((W.setCell ⟨w.heap.size,0,none⟩ v0).setCell ⟨w.heap.size,1,none⟩ v1).cell? ⟨w.heap.size,1,none⟩=some v1∧(∀b,b≠w.heap.size→((W.setCell ⟨w.heap.size,0,none⟩ v0).setCell ⟨w.heap.size,1,none⟩ v1).heap[b]?=W.heap[b]?)∧((W.setCell ⟨w.heap.size,0,none⟩ v0).setCell ⟨w.heap.size,1,none⟩ v1).heap.size=W.heap.size∧Below w.heap.size w ((W.setCell ⟨w.heap.size,0,none⟩ v0).setCell ⟨w.heap.size,1,none⟩ v1)):=aA0 fun W v0 v1 hz hW=>by
  have h:=(hW.block w.heap.size (by omega)).trans nX3
  exact⟨(aB3 h v0 v1).1,(aB3 h v0 v1).2,fun b hb=>(Below.heap_setCell _ _ _ _ hb).trans (Below.heap_setCell _ _ _ _ hb),by simp,((b3.trans (hW.mono (by omega))).setCell (Nat.le_refl _) _).setCell (Nat.le_refl _) _⟩
 obtain⟨q0,-⟩:=aA1 nC 0 (by simp)
 obtain⟨q1,-⟩:=aA1 nC 1 (by simp)
 simp only[List.getElem_toArray,List.getElem_cons_zero,List.getElem_cons_succ] at q0 q1
 by_cases hcd:code=0
 ·subst hcd
  obtain⟨rfl,rfl,hP⟩:=hok (hcode.1 rfl)
  have HP:=aA0 hP
  have HE:=aA0 (HOKP.out (hcode.1 rfl))
  obtain⟨x0,y0⟩:=aA1 nX3 0 (by simp)
  obtain⟨x1,y1⟩:=aA1 nX3 1 (by simp)
  simp only[List.getElem_toArray,List.getElem_cons_zero,List.getElem_cons_succ] at x0 x1
  clear hok hP hcode
  go_wp2_with fail
  obtain⟨d0,d1,hk,hz,hb⟩:=HS.out w3 (.string ⟨#[97]⟩) (.slice a1 (allM ps).types.length c1) (Nat.le_refl _) (Below.refl _ _)
  refine bodyPost_ret (aP4 _ _ w.heap.size (.string ⟨#[97]⟩) (.slice a1 (allM ps).types.length c1) rfl d0 d1) rfl ⟨allM ps,_,rfl,(HP.out.mono fun b hb2=>?_).sub fun b hb2=>?_,HE.out.1,HE.out.2.1,HE.out.2.2,hb⟩
  ·have hB:=HBL.out
   have hbl:b<w1.heap.size:=by rcases hb2 with h| h<;>omega
   rw[hk b (by rcases hb2 with h| h<;>omega)]
   exact bC.block b hbl
  ·rw[hz]
   exact hb2.imp id fun h=>⟨by omega,by omega⟩
 ·have hcd':(code !=0)=true:=by simpa using hcd
  have HFS:=aA0 (aGG w3)
  go_wp2_with (
   go_at_call 99
   refine HFS.out.mono ?_
   rintro e w4 ⟨σL,tb,rfl,h1,h2,h3,b4,h4⟩
   have hFP:=aA0 (aNU h1 h2 h3 h4)
   have nX4:=(b4.block w.heap.size (by omega)).trans nX3
   obtain⟨x0,y0⟩:=aA1 nX4 0 (by simp)
   obtain⟨x1,y1⟩:=aA1 nX4 1 (by simp)
   simp only[List.getElem_toArray,List.getElem_cons_zero,List.getElem_cons_succ] at x0 x1)
  obtain⟨d0,d1,hk,hz,hb⟩:=HS.out w4 (.string ⟨#[97,108,108]⟩) (.slice (some ⟨tb,0,none⟩) 4 4) b4.size b4
  obtain⟨p,hP,hsz,hF,h0⟩:=hFP.out
  have z4:=b4.size
  refine bodyPost_ret (aP4 _ _ w.heap.size (.string ⟨#[97,108,108]⟩) (.slice (some ⟨tb,0,none⟩) 4 4) rfl d0 d1) rfl ⟨p,_,rfl,(hP.mono fun b hb2=>hk b (by omega)).sub fun b hb2=>Or.inr ⟨by omega,by rw[hz];exact hb2.2⟩,hsz,hF,h0,hb⟩
end Go.Proofs.YtokmgbidmnanpaaGreatDoor
namespace Go.Proofs.YtokmgbidmnanpaaGreatDoor
open Go.RowKit Go.Shelf Go.Maps
def aUZ(w:World)(rb cb q0:Nat)(e:Ending)(w':World):Prop:=∃(ks:List Se) (a:Option Addr) (c q':Nat),e=.returned (.slice a ks.length c)∧SA w' w.heap.size ks a∧RdOk w' rb cb q'∧(q'≤q0+5*pkN 5∧ks.length≤c)∧Only (·=rb) w w'∧aFV 5 ks
theorem aFV.one(nm:ByteArray)(h:nm.size≤1048576):aFV 5 [⟨⟨#[]⟩,nm,false,0,[]⟩]:=
 aFV.of (by simp) fun s hs=>by
  rw[List.mem_singleton.1 hs]
  exact⟨by show(⟨#[]⟩:ByteArray).size≤_;decide,h,aFV.nil 4⟩
theorem aDM(a c:Value)(w:World):Sem.run Tryz.prog (Instr.field 48 (.agg #[a,c]) 1) w=.ok c w:=by
 simp[Instr.field,Tryz.underlying48,asAgg,go_sem]
set_option maxRecDepth 20000 in
set_option maxHeartbeats 3200000 in
theorem aKW(w:World)(rb cb q0:Nat)(p:Pt)(P:Nat→Prop)(v:Value)(hR:RdOk w rb cb q0)(hq:q0+5*pkN 5≤100000)(hP:PRep w P p v)(hPb:∀b,P b→b<w.heap.size∧b≠rb)(hF:aLE p)(hz:szP p≤1048576)(h0:0<p.types.length):
  Calls Tryz.prog 53 #[.pointer (some ⟨rb,0,none⟩),v] w (aUZ w rb cb q0):=by
 obtain⟨hr1,hr2,hr3⟩:=hR.lt
 have HPW:Hid (∀W,Only (·=rb) w W→PRep W P p v):=aA0 fun W hW=>hP.mono fun b hb=>hW.block b (hPb b hb).1 (hPb b hb).2
 have HSEL:=aA0 (fun W q (hr:RdOk W rb cb q) (ho:Only (·=rb) w W) (h:q+pkN 5≤100000)=>show Calls Tryz.prog 97 #[.pointer (some ⟨rb,0,none⟩),v,.string ⟨#[113,117,101,114,121]⟩,.int .i64 1] W (aJF W rb cb q 5) from aO6 5 1 rfl W rb cb q p P v ⟨#[113,117,101,114,121]⟩ hr h (HPW.out W ho) (fun b hb=>⟨Nat.lt_of_lt_of_le (hPb b hb).1 ho.size,(hPb b hb).2⟩) hF hz)
 have HPO:Hid (∀W,Only (·=rb) w W→PRep W (·<W.heap.size) p v):=aA0 fun W hW=>(HPW.out W hW).sub fun b hb=>Nat.lt_of_lt_of_le (hPb b hb).1 hW.size
 have HCK:=aA0 (fun W (hW:Only (·=rb) w W) ks a c (hf:FitS 5 ks) (hS:SA W w.heap.size ks a)=>(aEZ 5 p ks a c v W hf hS.old (by omega) (HPO.out W hW) hz).mono fun e w' h=>show∃(a:Option Addr) (n c:Nat) (cd:Int),e=.returned (.agg #[.slice a n c,.int .i64 cd])∧Below W.heap.size W w' from by obtain⟨a,c,h1,-,h2⟩:=h;exact⟨a,_,c,_,h1,h2⟩)
 have HOK:=aA0 (fun W ks a c (hf:FitS 5 ks) (hS:SA W w.heap.size ks a)=>aKB 5 ks W W.heap.size a c hf hS.old (Nat.le_refl _))
 obtain⟨pk,hpk⟩:∃n,n=pkN 5:=⟨_,rfl⟩
 have HNM:Hid (∃(nm:ByteArray),nm.size≤1048576∧∃ta tc fa fc tb tq fb fo,v=.agg #[.string p.name,.slice ta p.types.length tc]∧ta=some ⟨tb,tq,none⟩∧fa=some ⟨fb,fo,none⟩∧∃nf,0<nf∧∀W,Only (·=rb) w W→W.cell? ⟨tb,tq+2,none⟩=some (.slice fa nf fc)∧W.cell? ⟨fb,fo,none⟩=some (.string nm)):=aA0 (by
  obtain⟨ta,tc,rfl,⟨-,C,hA,hr⟩,htc,hsn⟩:=hP
  obtain⟨tb,tq,rfl,htbP,hc⟩:=hA h0
  obtain⟨fa,fcp,he,⟨-,Df,hAD,hrD⟩,-⟩:=hr 0 h0
  obtain⟨fb,fo,rfl,hfbP,hfc⟩:=hAD (hF 0 h0)
  obtain⟨na,nc,he2,-⟩:=hrD 0 (hF 0 h0)
  simp only[Value.agg.injEq,Array.mk.injEq,List.cons.injEq,and_true] at he he2
  refine⟨(fth (tth p.types 0).fields 0).name,?_,_,tc,_,fcp,tb,tq,fb,fo,rfl,rfl,rfl,_,hF 0 h0,fun W hW=>⟨?_,?_⟩⟩
  ·have h1:=aEL p.types 0 p.types.length h0
   have h2:=aH1 (tth p.types 0).fields 0 _ (hF 0 h0)
   have h3:szP p=p.name.size+(p.types.length+aBT p.types p.types.length):=rfl
   have h4:szT (tth p.types 0)=(tth p.types 0).name.size+(tth p.types 0).key.size+((tth p.types 0).fields.length+aBY (tth p.types 0).fields (tth p.types 0).fields.length):=rfl
   have h5:szF (fth (tth p.types 0).fields 0)=(fth (tth p.types 0).fields 0).name.size+(fth (tth p.types 0).fields 0).of.size+szNs (fth (tth p.types 0).fields 0).needs:=rfl
   omega
  ·have h:=hc 0 h0 2 (by omega)
   rw[he.2.2,Nat.zero_mul,Nat.add_zero] at h
   exact(World.cell?_of_block (a:=⟨tb,tq+2,none⟩) (hW.block tb (hPb tb htbP).1 (hPb tb htbP).2)).trans h
  ·have h:=hfc 0 (hF 0 h0) 0 (by omega)
   rw[he2.1,Nat.zero_mul,Nat.add_zero] at h
   exact(World.cell?_of_block (a:=⟨fb,fo,none⟩) (hW.block fb (hPb fb hfbP).1 (hPb fb hfbP).2)).trans h)
 clear hP hPb hF
 obtain⟨nm,hnm,ta,tc,fa,fc,tb,tq,fb,fo,rfl,rfl,rfl,nf,hnf,HCE⟩:=HNM.out
 replace HCE:=aA0 HCE
 have hnfi:(0:Int)<(nf:Int):=by omega
 have h0i:(0:Int)<(p.types.length:Int):=by omega
 have bw:=aA2 w (.cells #[.string p.name,.slice (some ⟨tb,tq,none⟩) p.types.length tc] 43)
 have nw:=aA3 (w:=w) (N:=w.heap.size) #[.string p.name,.slice (some ⟨tb,tq,none⟩) p.types.length tc] 43 rfl
 have zw:(w.alloc (.cells #[.string p.name,.slice (some ⟨tb,tq,none⟩) p.types.length tc] 43)).heap.size=w.heap.size+1:=by simp
 have oX:=Only.of_below (·=rb) bw
 have rX:=hR.only (Only.of_below (fun _=>False) bw) id id
 rw[←hpk] at hq HSEL
 clear HNM hR
 go_enter Tryz.func53,Tryz.ntmps53
 go_upto_region 1 with fail
 generalize w.alloc (.cells #[.string p.name,.slice (some ⟨tb,tq,none⟩) p.types.length tc] 43)=X at*
 have HPB:Hid (∀W,Only (·=rb) X W→W.cell? ⟨w.heap.size,0,none⟩=some (.string p.name)∧W.cell? ⟨w.heap.size,1,none⟩=some (.slice (some ⟨tb,tq,none⟩) p.types.length tc)):=aA0 fun W hW=>by
  have h:=(hW.block w.heap.size (by omega) (by omega)).trans nw
  exact⟨(aA1 h 0 (by simp)).1,(aA1 h 1 (by simp)).1⟩
 have HS0:=aA0 (HSEL.out X q0 rX oX (by omega))
 obtain⟨p0,p1⟩:=HPB.out X ⟨rfl,rfl,rfl,Nat.le_refl _,fun _ _ _=>rfl⟩
 go_upto_region 2 with(
  go_at_call 97
  refine HS0.out.mono ?_
  rintro e w1 ⟨ks,ka,kc,q1,rfl,hKS,rS,hq1,oS,hSO⟩)
 have HS1:Hid (RdOk w1 rb cb q1∧Only (·=rb) X w1∧SA w1 w.heap.size ks ka):=aA0 ⟨rS,oS,SA.low (L:=X.heap.size) hKS (by omega)⟩
 rw[←hpk] at hq1
 clear hKS rS oS HS0 p0 p1 nw
 go_wp2_with fail
 go_loopw [5,6] (fun s i wr=>∃(k:Nat) (ks:List Se) (ka:Option Addr) (kc q:Nat),i=.int .i64 k∧k≤4∧s=.slice ka ks.length kc∧aFV 5 ks∧(q≤q0+(k+1)*pk∧ks.length≤kc)∧Hid (RdOk wr rb cb q∧Only (·=rb) X wr∧SA wr w.heap.size ks ka)) (fun _ i _=>4- (intOf i).toNat)
 case atStart=>exact⟨0,ks,ka,kc,q1,rfl,by omega,rfl,hSO,by omega,HS1⟩
 case round=>
  clear HS1 hSO hq1
  obtain⟨k,ks,ka,kc,q,rfl,hk,rfl,hSO,hq2,HS⟩:=hrel
  obtain⟨wR,rfl⟩:∃x,x=wr:=⟨wr,rfl⟩
  have HO:=aA0 (HOK.out wR ks ka kc (Tr.fit (m:=3) hSO) HS.out.2.2)
  obtain⟨ok,hok⟩:∃x,Hid (aDH 5 ks=x):=⟨_,aA0 rfl⟩
  rw[hok.out] at HO
  have HOW:Hid (∀W,Below wR.heap.size wR W→Only (·=rb) X W):=aA0 fun W hW=>HS.out.2.1.trans (Only.of_below (·=rb) hW) fun _ _ q=>q
  have HC:=aA0 (fun W (hW:Below wR.heap.size wR W)=>HCK.out W (oX.trans (HOW.out W hW) fun _ _ q=>q) ks ka kc (Tr.fit (m:=3) hSO) (HS.out.2.2.below hW))
  go_upto_region 3 with fail
  go_cut [23] (fun r wx=>∃bb:Bool,r=.bool bb∧(bb=true→k<4)∧Below wR.heap.size wR wx)
  case first=>
   by_cases hk4:k<4
   case neg=>
    have hk4i:¬(k:Int)<4:=by omega
    go_wp2_with fail
    go_meet
    case rel=>exact⟨false,rfl,(fun h=>by cases h),Below.refl _ _⟩
   case pos=>
    have hk4i:(k:Int)<4:=by omega
    cases ok
    case false=>
     go_wp2_with (
      go_at_call 15
      refine HO.out.mono ?_
      rintro e w2 ⟨rfl,b2⟩)
     go_meet
     case rel=>exact⟨_,rfl,(fun _=>hk4),b2⟩
    case true=>
     go_wp2_with (
      first
       |(
        go_at_call 15
        refine HO.out.mono ?_
        rintro e w2 ⟨rfl,b2⟩
        obtain⟨p0,p1⟩:=HPB.out w2 (HOW.out w2 b2))
       |(
        go_at_call 33
        refine(HC.out w2 b2).mono ?_
        rintro e w3 ⟨fa',fn',fc',cd,rfl,b3⟩
        have hfld:=aDM (.slice fa' fn' fc') (.int .i64 cd)))
     go_meet
     case rel=>exact⟨_,rfl,(fun _=>hk4),b2.trans (b3.mono b2.size)⟩
  case rest=>
  obtain⟨bb,rfl,hbk,b2⟩:=hcut
  obtain⟨wM,rfl⟩:∃x,x=wc:=⟨wc,rfl⟩
  have HM:Hid (RdOk wM rb cb q∧Only (·=rb) X wM∧SA wM w.heap.size ks ka):=aA0 ⟨HS.out.1.only (Only.of_below (fun _=>False) b2) id id,HOW.out wM b2,HS.out.2.2.below b2⟩
  clear HO HC HOW HS b2
  obtain⟨p0,p1⟩:=HPB.out wM HM.out.2.1
  cases bb
  case true=>
   have hk4:=hbk rfl
   have h4:(k+1)*pk≤4*pk:=Nat.mul_le_mul_right _ (by omega)
   have h5:(k+1+1)*pk=(k+1)*pk+pk:=Nat.succ_mul _ _
   have HSS:=aA0 (HSEL.out wM q HM.out.1 (oX.trans HM.out.2.1 fun _ _ q=>q) (by omega))
   go_wp2_with (
    go_at_call 97
    refine HSS.out.mono ?_
    rintro e w5 ⟨ks',ka',kc',q',rfl,hKS',rS',hq',oS',hSO'⟩)
   rw[←hpk] at hq'
   have hzM:=HM.out.2.1.size
   have HN:Hid (RdOk w5 rb cb q'∧Only (·=rb) X w5∧SA w5 w.heap.size ks' ka'):=aA0 ⟨rS',HM.out.2.1.trans oS' fun _ _ q=>q,SA.low (L:=wM.heap.size) hKS' (by omega)⟩
   clear hKS' rS' oS'
   go_roundw
   case measure=>simp[intOf];omega
   case rel=>exact⟨k+1,ks',ka',kc',q',by go_num,by omega,rfl,hSO',by omega,HN⟩
  case false=>
   have HO2:=aA0 (HOK.out wM ks ka kc (Tr.fit (m:=3) hSO) HM.out.2.2)
   rw[hok.out] at HO2
   have h4:(k+1)*pk≤5*pk:=Nat.mul_le_mul_right _ (by omega)
   cases ok
   case true=>
    go_wp2_with (
     go_at_call 15
     refine HO2.out.mono ?_
     rintro e w6 ⟨rfl,b6⟩)
    go_ret
    exact⟨ks,ka,kc,q,rfl,HM.out.2.2.below b6,HM.out.1.only (Only.of_below (fun _=>False) b6) id id,by rw[←hpk];omega,(oX.trans HM.out.2.1 fun _ _ q=>q).trans (Only.of_below (·=rb) b6) (fun _ _ q=>q),hSO⟩
   case false=>
    go_wp2_with (
     go_at_call 15
     refine HO2.out.mono ?_
     rintro e w6 ⟨rfl,b6⟩
     have o6:=HM.out.2.1.trans (Only.of_below (·=rb) b6) fun _ _ q=>q
     obtain⟨p0',p1'⟩:=HPB.out w6 o6
     obtain⟨t2,n0⟩:=HCE.out w6 (oX.trans o6 fun _ _ q=>q))
    go_ret
    have bB:=aA2 w6 (.cells #[.string ⟨#[]⟩,.string nm,.bool false,.int .i64 0,.slice none 0 0] 56)
    exact⟨[⟨⟨#[]⟩,nm,false,0,[]⟩],some ⟨w6.heap.size,0,none⟩,_,q,rfl,SA.one (by have:=o6.size;omega) (aA3 _ _ rfl) hnm,HM.out.1.only (Only.of_below (fun _=>False) (b6.trans (bB.mono b6.size))) id id,⟨by rw[←hpk];omega,by simp⟩,((oX.trans o6 fun _ _ q=>q).trans (Only.of_below (·=rb) bB) fun _ _ q=>q),aFV.one nm hnm⟩
end Go.Proofs.YtokmgbidmnanpaaGreatDoor
namespace Go.Proofs.YtokmgbidmnanpaaGreatDoor
open Go.RowKit Go.Shelf Go.Maps
theorem aRS.low{w w':World}{A B:Nat}{e:Ending}(h:aRS w A B e w')(hA:A≤w.heap.size)(hB:B≤w.heap.size):∃(p:Pt) (v:Value),e=.returned v∧PRep w' (fun b=>A≤b∧b<w'.heap.size) p v∧szP p≤1048576∧aLE p∧0<p.types.length∧Below w.heap.size w w':=by
 obtain⟨p,v,h1,h2,h3,h4,h5,h6⟩:=h
 have hz:=h6.size
 exact⟨p,v,h1,h2.sub fun b hb=>by rcases hb with h| h<;>omega,h3,h4,h5,h6⟩
theorem pkN5:pkN 5=3025:=by decide
end Go.Proofs.YtokmgbidmnanpaaGreatDoor
