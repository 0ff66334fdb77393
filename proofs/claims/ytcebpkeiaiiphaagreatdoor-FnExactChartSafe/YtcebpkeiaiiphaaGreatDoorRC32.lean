import Derived.Test.YtcebpkeiaiiphaaGreatDoorRC31
import Derived.Laws.EntriesVeiled
set_option linter.unusedSimpArgs false
set_option linter.unusedVariables false
namespace Go.Proofs.YtcebpkeiaiiphaaGreatDoor
open Go.RowKit Go.Maps
def aR4(w:World)(e:Ending)(w':World):Prop:=∃m,e=.returned (.agg #[.slice none 0 0,.map (some m)])∧Below w.heap.size w w'∧w.heap.size<=m∧w'.heap[m]?=some (.map #[] 0)
theorem aRT(w:World)(T:TypeId):∀W,W=(w.alloc (.cells #[.slice none 0 0,.map (some (w.heap.size+1))] T)).alloc (.map #[] 0)->W.cell? ⟨w.heap.size,0,none⟩=some (.slice none 0 0)∧W.cell? ⟨w.heap.size,1,none⟩=some (.map (some (w.heap.size+1)))∧Below w.heap.size w W∧W.heap[w.heap.size+1]?=some (.map #[] 0):=by
 rintro W rfl;have h1:((w.alloc (.cells #[.slice none 0 0,.map (some (w.heap.size+1))] T)).alloc (.map #[] 0)).heap[w.heap.size]?=some (.cells #[.slice none 0 0,.map (some (w.heap.size+1))] T (0,0)):=((aA2 (w.alloc (.cells #[.slice none 0 0,.map (some (w.heap.size+1))] T)) (.map #[] 0)).block w.heap.size (by simp)).trans (aA3 _ _ rfl)
 refine⟨(aA1 h1 0 (by simp)).1,(aA1 h1 1 (by simp)).1,aA6 w _ _,?_⟩
 have:=heap_alloc_new (w.alloc (.cells #[.slice none 0 0,.map (some (w.heap.size+1))] T)) (.map #[] 0);simpa using this
theorem aSG(FW:World)(tmps:Array Value)(N:Nat)(v0 v1:Value)(h0:tmps.getD 0 undef=.pointer (some ⟨N,0,none⟩))(d0:FW.cell? ⟨N,0,none⟩=some v0)(d1:FW.cell? ⟨N,1,none⟩=some v1):
  (results Tryz.f111 tmps).run Tryz.prog FW=.ok (.agg #[v0,v1]) FW:=by
 simp only[Array.getD_eq_getD_getElem?] at h0;simp[results,Tryz.results111,go_sem,h0,d0,d1]
theorem aN3(w:World):Calls Tryz.prog 111 #[] w (aR4 w):=by
 have hmm:=@run_makeMap Tryz.prog;have HB:=aA0 (aRT w 137);go_enter Tryz.func111,Tryz.ntmps111
 go_wp2_with fail
 obtain⟨q0,q1,q2,q3⟩:=HB.out _ rfl;exact bodyPost_ret (aSG _ _ w.heap.size _ _ rfl q0 q1) rfl ⟨_,rfl,q2,by omega,q3⟩
theorem aSD(FW:World)(tmps:Array Value)(N:Nat)(v0 v1:Value)(h0:tmps.getD 0 undef=.pointer (some ⟨N,0,none⟩))(d0:FW.cell? ⟨N,0,none⟩=some v0)(d1:FW.cell? ⟨N,1,none⟩=some v1):
  (results Tryz.f112 tmps).run Tryz.prog FW=.ok (.agg #[v0,v1]) FW:=by
 simp only[Array.getD_eq_getD_getElem?] at h0;simp[results,Tryz.results112,go_sem,h0,d0,d1]
theorem aRU(w:World):Calls Tryz.prog 112 #[] w (aR4 w):=by
 have hmm:=@run_makeMap Tryz.prog;have HB:=aA0 (aRT w 141);go_enter Tryz.func112,Tryz.ntmps112
 go_wp2_with fail
 obtain⟨q0,q1,q2,q3⟩:=HB.out _ rfl;exact bodyPost_ret (aSD _ _ w.heap.size _ _ rfl q0 q1) rfl ⟨_,rfl,q2,by omega,q3⟩
theorem aRG(FW:World)(tmps:Array Value)(N:Nat)(v0 v1:Value)(h0:tmps.getD 0 undef=.pointer (some ⟨N,0,none⟩))(d0:FW.cell? ⟨N,0,none⟩=some v0)(d1:FW.cell? ⟨N,1,none⟩=some v1):
  (results Tryz.f113 tmps).run Tryz.prog FW=.ok (.agg #[v0,v1]) FW:=by
 simp only[Array.getD_eq_getD_getElem?] at h0;simp[results,Tryz.results113,go_sem,h0,d0,d1]
theorem aRO(w:World):Calls Tryz.prog 113 #[] w (aR4 w):=by
 have hmm:=@run_makeMap Tryz.prog;have HB:=aA0 (aRT w 144);go_enter Tryz.func113,Tryz.ntmps113
 go_wp2_with fail
 obtain⟨q0,q1,q2,q3⟩:=HB.out _ rfl;exact bodyPost_ret (aRG _ _ w.heap.size _ _ rfl q0 q1) rfl ⟨_,rfl,q2,by omega,q3⟩
theorem aSM(FW:World)(tmps:Array Value)(N:Nat)(v0 v1 v2 v3 v4 v5 v6 v7 v8:Value)(h2:tmps.getD 2 undef=.pointer (some ⟨N,0,none⟩))
  (d0:FW.cell? ⟨N,0,none⟩=some v0) (d1:FW.cell? ⟨N,1,none⟩=some v1) (d2:FW.cell? ⟨N,2,none⟩=some v2) (d3:FW.cell? ⟨N,3,none⟩=some v3) (d4:FW.cell? ⟨N,4,none⟩=some v4) (d5:FW.cell? ⟨N,5,none⟩=some v5) (d6:FW.cell? ⟨N,6,none⟩=some v6) (d7:FW.cell? ⟨N,7,none⟩=some v7) (d8:FW.cell? ⟨N,8,none⟩=some v8):
  (results Tryz.f80 tmps).run Tryz.prog FW=.ok (.agg #[v0,v1,v2,v3,v4,v5,v6,v7,v8]) FW:=by
 simp only[Array.getD_eq_getD_getElem?] at h2;simp[results,Tryz.results80,go_sem,h2,d0,d1,d2,d3,d4,d5,d6,d7,d8]
theorem aC3{w:World}{base:Nat}{e:TypeId}{size:Nat}{v:Value}{n:Nat}{xs:List Value}(h:w.ownsRow base e size v n xs):∃a m c,v=.slice a m c:=by
 rcases h.2 with⟨rfl,-⟩| ⟨g,cap,cur,rfl,-⟩
 ·exact⟨_,_,_,rfl⟩
 ·exact⟨_,_,_,rfl⟩
theorem aVO{W:World}{N:Nat}{T:TypeId}{a0 a1 a2 a3 a4 a5 a6 a7 a8:Value}(hb:W.heap[N]?=some (.cells #[a0,a1,a2,a3,a4,a5,a6,a7,a8] T (0,0)))(v0 v1 v2 v3 v4 v5 v6 v7 v8:Value):∀W',W'=(((((((((W.setCell ⟨N,0,none⟩ v0).setCell ⟨N,1,none⟩ v1).setCell ⟨N,2,none⟩ v2).setCell ⟨N,3,none⟩ v3).setCell ⟨N,4,none⟩ v4).setCell ⟨N,5,none⟩ v5).setCell ⟨N,6,none⟩ v6).setCell ⟨N,7,none⟩ v7).setCell ⟨N,8,none⟩ v8)->W'.heap[N]?=some (.cells #[v0,v1,v2,v3,v4,v5,v6,v7,v8] T (0,0))∧(∀b,b≠N->W'.heap[b]?=W.heap[b]?)∧W'.heap.size=W.heap.size∧Below N W W':=by
 rintro W' rfl;refine⟨by simpa using(aAC (aAC (aAC (aAC (aAC (aAC (aAC (aAC (aAC hb 0 v0) 1 v1) 2 v2) 3 v3) 4 v4) 5 v5) 6 v6) 7 v7) 8 v8),fun b hb=>(Below.heap_setCell _ _ _ _ hb).trans <| (Below.heap_setCell _ _ _ _ hb).trans <| (Below.heap_setCell _ _ _ _ hb).trans <| (Below.heap_setCell _ _ _ _ hb).trans <| (Below.heap_setCell _ _ _ _ hb).trans <| (Below.heap_setCell _ _ _ _ hb).trans <| (Below.heap_setCell _ _ _ _ hb).trans <| (Below.heap_setCell _ _ _ _ hb).trans <| Below.heap_setCell _ _ _ _ hb,by simp,((((((((((Below.refl N W).setCell (p:=⟨N,0,none⟩) (Nat.le_refl _) v0).setCell (p:=⟨N,1,none⟩) (Nat.le_refl _) v1).setCell (p:=⟨N,2,none⟩) (Nat.le_refl _) v2).setCell (p:=⟨N,3,none⟩) (Nat.le_refl _) v3).setCell (p:=⟨N,4,none⟩) (Nat.le_refl _) v4).setCell (p:=⟨N,5,none⟩) (Nat.le_refl _) v5).setCell (p:=⟨N,6,none⟩) (Nat.le_refl _) v6).setCell (p:=⟨N,7,none⟩) (Nat.le_refl _) v7).setCell (p:=⟨N,8,none⟩) (Nat.le_refl _) v8)⟩
theorem InvY.lows{w0 wx:World}{P:Nat->Prop}{B sb:Nat}{pv:Value}{X:Su}{c:Nat}{V:Sv}(h:InvY w0 P B sb pv V X c wx)(hV:∀b,V.fp b->B<=b)(hs:B<=sb)(hB:B<=w0.heap.size):Below B w0 wx:=by
 obtain⟨V1,h1,h2,h3⟩:=h;exact h2.below hB fun b hb e=>by
  rcases e with e| e
  ·have:=hV b e;omega
  ·omega
def Sv.new(m1 m2 m3 m4:Nat):Sv:=⟨.slice none 0 0,.slice none 0 0,.slice none 0 0,.slice none 0 0,m1,m2,m3,m4,(·=m1),(·=m2),(·=m3),(·=m4),fun _=>[],fun _=>[],fun _=>[],fun _=>[],0,0,0,[],[],[]⟩
theorem SuM.new{w:World}{P:Nat->Prop}{B sb:Nat}{pv:Value}{m1 m2 m3 m4:Nat}(h1:w.heap[m1]?=some (.map #[] 0))(h2:w.heap[m2]?=some (.map #[] 0))(h3:w.heap[m3]?=some (.map #[] 0))(h4:w.heap[m4]?=some (.map #[] 0))(hB:B<=m1)(h12:m1<m2)(h23:m2<m3)(h34:m3<m4)(h4s:m4<sb)
  (hb:w.heap[sb]?=some (.cells #[pv,.slice none 0 0,.map (some m1),.slice none 0 0,.map (some m2),.slice none 0 0,.map (some m3),.slice none 0 0,.map (some m4)] 146 (0,0))) (hP:∀b,P b->b<B):SuM w P B sb pv Su.zero 0 (Sv.new m1 m2 m3 m4):=
 ⟨⟨Lst.made w h1 hB,fun _=>rfl,Lst.made w h2 (by omega),Nat.le_refl _,fun _=>rfl,Lst.made w h3 (by omega),Nat.le_refl _,fun _ _=>aCN.nil _ _,Lst.made w h4 (by omega),Nat.le_refl _,fun _ _=>rfl,⟨Nat.le_refl _,fun _=>Nat.le_refl _,fun _=>Nat.le_refl _,fun _ _=>Nat.le_refl _,fun _ _=>Nat.le_refl _⟩,fun b=>⟨fun e=>by have e:b=m1:=e;exact⟨fun q=>by have q:b=m2:=q;omega,fun q=>by have q:b=m3:=q;omega,fun q=>by have q:b=m4:=q;omega⟩,fun e=>by have e:b=m2:=e;exact⟨fun q=>by have q:b=m3:=q;omega,fun q=>by have q:b=m4:=q;omega⟩,fun e q=>by have e:b=m3:=e;have q:b=m4:=q;omega⟩⟩,hb,fun e=>by
  rcases e with e| e| e| e
  ·have e:sb=m1:=e;omega
  ·have e:sb=m2:=e;omega
  ·have e:sb=m3:=e;omega
  ·have e:sb=m4:=e;omega,by omega,hP⟩
set_option maxRecDepth 20000 in
set_option maxHeartbeats 6400000 in
theorem aI6(ps:List Pt)(w:World)(B0:Nat)(a:Option Addr)(c:Nat)(hR:aAP w (·<B0) ps a)(hB:B0<=w.heap.size)(hl:ps.length<=4)(hok:∀i,i<ps.length->okP (pth ps i)=true):
  Calls Tryz.prog 80 #[.slice a ps.length c] w fun e w'=>∃V:Sv,e=.returned (.agg (V.cells (.slice a ps.length c)))∧SuL w' (·<B0) (w.heap.size+1) (suM ps) 1000 V∧Below w.heap.size w w':=by
 have HR:=aA0 hR;have HBL:=aA0 hB;have HOK:=aA0 hok;have hz4:=hR.1;clear hR hB hok;obtain⟨pl,HPL⟩:∃x,Hid (x=ps.length):=⟨_,aA0 rfl⟩;rw[<-HPL.out] at hl hz4 ⊢;go_enter Tryz.func80,Tryz.ntmps80
 have bR:=aA2 w (.cells #[.slice none 0 0,.slice none 0 0,.map none,.slice none 0 0,.map none,.slice none 0 0,.map none,.slice none 0 0,.map none] 146);have nR:=aA3 (w:=w) (N:=w.heap.size) #[.slice none 0 0,.slice none 0 0,.map none,.slice none 0 0,.map none,.slice none 0 0,.map none,.slice none 0 0,.map none] 146 rfl;have zR:(w.alloc (.cells #[.slice none 0 0,.slice none 0 0,.map none,.slice none 0 0,.map none,.slice none 0 0,.map none,.slice none 0 0,.map none] 146)).heap.size=w.heap.size+1:=by simp
 go_upto_region 1 with fail
 generalize w.alloc (.cells #[.slice none 0 0,.slice none 0 0,.map none,.slice none 0 0,.map none,.slice none 0 0,.map none,.slice none 0 0,.map none] 146)=w0 at*;have HB0:=aA0 bR;have HN0:=aA0 nR;have HZ0:=aA0 zR;clear bR nR zR;go_wp2_with fail
 refine(aN3 _).mono ?_;rintro e w1 ⟨m1,rfl,b1,z1,k1⟩;go_wp2_with fail
 refine(aN3 _).mono ?_;rintro e w2 ⟨m2,rfl,b2,z2,k2⟩;go_wp2_with fail
 refine(aRU _).mono ?_;rintro e w3 ⟨m3,rfl,b3,z3,k3⟩;go_wp2_with fail
 refine(aRO _).mono ?_;rintro e w4 ⟨m4,rfl,b4,z4,k4⟩;have l1:m1<w1.heap.size:=(Array.getElem?_eq_some_iff.1 k1).1;have l2:m2<w2.heap.size:=(Array.getElem?_eq_some_iff.1 k2).1;have l3:m3<w3.heap.size:=(Array.getElem?_eq_some_iff.1 k3).1;have l4:m4<w4.heap.size:=(Array.getElem?_eq_some_iff.1 k4).1;have s1:=b1.size;have s2:=b2.size;have s3:=b3.size;have s4:=b4.size;have b5:=aA2 w4 (.cells #[.slice a pl c,.slice none 0 0,.map (some m1),.slice none 0 0,.map (some m2),.slice none 0 0,.map (some m3),.slice none 0 0,.map (some m4)] 146);have n5:=aA3 (w:=w4) (N:=w4.heap.size) #[.slice a pl c,.slice none 0 0,.map (some m1),.slice none 0 0,.map (some m2),.slice none 0 0,.map (some m3),.slice none 0 0,.map (some m4)] 146 rfl;have hz0:=HZ0.out;have HM0:Hid (SuM (w4.alloc (.cells #[.slice a pl c,.slice none 0 0,.map (some m1),.slice none 0 0,.map (some m2),.slice none 0 0,.map (some m3),.slice none 0 0,.map (some m4)] 146)) (·<B0) (w.heap.size+1) w4.heap.size (.slice a pl c) Su.zero 0 (Sv.new m1 m2 m3 m4)):=aA0 (by
  have hBL:=HBL.out;exact SuM.new ((b5.block m1 (by omega)).trans ((b4.block m1 (by omega)).trans ((b3.block m1 (by omega)).trans ((b2.block m1 l1).trans k1)))) ((b5.block m2 (by omega)).trans ((b4.block m2 (by omega)).trans ((b3.block m2 l2).trans k2))) ((b5.block m3 (by omega)).trans ((b4.block m3 l3).trans k3)) ((b5.block m4 l4).trans k4) (by omega) (by omega) (by omega) (by omega) l4 n5 (fun b hb=>by have hb:b<B0:=hb;omega))
 have HBX:Hid (Below (w.heap.size+1) w0 (w4.alloc (.cells #[.slice a pl c,.slice none 0 0,.map (some m1),.slice none 0 0,.map (some m2),.slice none 0 0,.map (some m3),.slice none 0 0,.map (some m4)] 146))):=aA0 ((((b1.mono (by omega)).trans (b2.mono (by omega))).trans (b3.mono (by omega))).trans (b4.mono (by omega)) |>.trans (b5.mono (by omega)))
 obtain⟨sb,HSB⟩:∃x,Hid (x=w4.heap.size):=⟨_,aA0 rfl⟩;rw[<-HSB.out] at HM0;clear n5 b1 b2 b3 b4 b5 k1 k2 k3 k4 l1 l2 l3 l4 z1 z2 z3 z4 s1 s2 s3 s4 hz0;go_wp2_with fail
 rw[<-HSB.out];generalize w4.alloc (.cells #[.slice a pl c,.slice none 0 0,.map (some m1),.slice none 0 0,.map (some m2),.slice none 0 0,.map (some m3),.slice none 0 0,.map (some m4)] 146)=w5 at*;have HS0:Hid (suTo ps 0=Su.zero):=aA0 rfl;have HSS:Hid (∀i,suTo ps (i+1)=(suTo ps i).tys i (pth ps i) (pth ps i).types.length):=aA0 fun _=>rfl;have HSW:Hid (∀wr,Below (w.heap.size+1) w0 wr->Below w.heap.size w wr):=aA0 fun wr h=>HB0.out.trans (h.mono (by omega))
 clear HSB;go_loopw [16] (fun y wr=>∃i:Nat,i<=pl∧y=.int .i64 i∧Hid ((∃V,SuM wr (·<B0) (w.heap.size+1) sb (.slice a pl c) (suTo ps i) (i*200) V)∧Below (w.heap.size+1) w0 wr)) (fun y _=>pl- (intOf y).toNat)
 case atStart=>exact⟨0,Nat.zero_le _,rfl,aA0 ⟨⟨_,HM0.out⟩,HBX.out⟩⟩
 case round=>
 obtain⟨i,hi,rfl,HJ⟩:=hrel;obtain⟨w6,rfl⟩:∃x,x=wr:=⟨wr,rfl⟩;by_cases hlt:i<pl
 ·have hii:(i:Int)<(pl:Int):=by omega
  have hip:i<ps.length:=by rw[<-HPL.out];exact hlt
  obtain⟨pb,po,ta,tc,rfl,hpB,q0,q1,hP⟩:=HR.out.at i hip;have hbw:=HSW.out w6 HJ.out.2;have hBL:=HBL.out;have c0:=(hbw.cell (p:=⟨pb,po+i*2,none⟩) (by show pb<_;omega)).trans q0
  have c1:=(hbw.cell (p:=⟨pb,po+i*2+1,none⟩) (by show pb<_;omega)).trans q1
  have hp:=HOK.out i hip;have HPO:=aA0 hp;have hp5:=(aEB hp).2;have HSI:=aA0 (HSS.out i);have HT:Hid (aDA w (·<B0) (pth ps i).types ta):=aA0 (by
   obtain⟨ta',tc',e,hT,-⟩:=hP;simp only[Value.agg.injEq,Array.mk.injEq,List.cons.injEq,Value.slice.injEq,true_and,and_true] at e;obtain⟨rfl,rfl⟩:=e;exact hT)
  have HJ0:=HJ;generalize suTo ps i=Y at*;generalize pth ps i=p at*;obtain⟨tl,HTL⟩:∃x,Hid (x=p.types.length):=⟨_,aA0 rfl⟩;rw[<-HTL.out] at c1 hp5 HSI;have b7:=aA2 w6 (.cells #[.string p.name,.slice ta tl tc] 46);have n7:=(aA1 (aA3 (w:=w6) (N:=w6.heap.size) #[.string p.name,.slice ta tl tc] 46 rfl) 1 (by simp)).1
  simp only[List.getElem_toArray,List.getElem_cons_succ,List.getElem_cons_zero] at n7;have z6:w.heap.size+1<=w6.heap.size:=by have:=HJ.out.2.size;have:=HZ0.out;omega
  have HJ7:Hid ((∃V,SuM (w6.alloc (.cells #[.string p.name,.slice ta tl tc] 46)) (·<B0) (w.heap.size+1) sb (.slice (some ⟨pb,po,none⟩) pl c) Y (i*200) V)∧Below (w.heap.size+1) w0 (w6.alloc (.cells #[.string p.name,.slice ta tl tc] 46))):=aA0 (by
   obtain⟨⟨V,h1⟩,h2⟩:=HJ.out;exact⟨⟨V,h1.keep b7⟩,h2.trans (b7.mono z6)⟩)
  clear q0 q1 hP hp hbw b7 HJ HJ0;go_upto_region 5 with fail
  generalize w6.alloc (.cells #[.string p.name,.slice ta tl tc] 46)=w7 at*;go_wp2_with fail
  clear n7;go_loopw [24] (fun y wr=>∃k:Nat,k<=tl∧y=.int .i64 k∧Hid ((∃V,SuM wr (·<B0) (w.heap.size+1) sb (.slice (some ⟨pb,po,none⟩) pl c) (Y.tys i p k) (i*200+k*30) V)∧Below (w.heap.size+1) w0 wr)) (fun y _=>tl- (intOf y).toNat)
  case atStart=>exact⟨0,Nat.zero_le _,rfl,HJ7⟩
  case round=>
  obtain⟨k,hk,rfl,HK⟩:=hrel;obtain⟨w8,rfl⟩:∃x,x=wr:=⟨wr,rfl⟩;by_cases hkl:k<tl
  ·have hki:(k:Int)<(tl:Int):=by omega
   have hkp:k<p.types.length:=by rw[<-HTL.out];exact hkl
   obtain⟨b,off,fa,fc,rfl,hTR,hTC⟩:=HT.out.at HBL.out k hkp;obtain⟨x0,x1,x2⟩:=hTC w8 (HSW.out w8 HK.out.2);have hf8:=(aCI (aEI HPO.out hkp)).2.1;have HSK:Hid (Y.tys i p (k+1)=(Y.tys i p k).look i (tth p.types k)):=aA0 rfl;generalize Y.tys i p k=Z at*;generalize tth p.types k=t at*;have b9:=aA2 w8 (.cells #[.string t.name,.string t.key,.slice fa t.fields.length fc] 96);have n9:=aA3 (w:=w8) (N:=w8.heap.size) #[.string t.name,.string t.key,.slice fa t.fields.length fc] 96 rfl;have z8:w.heap.size+1<=w8.heap.size:=by have:=HK.out.2.size;have:=HZ0.out;omega
   obtain⟨⟨V,h1⟩,h2⟩:=HK.out;have HLK:=aA0 (aTO t i (w8.alloc (.cells #[.string t.name,.string t.key,.slice fa t.fields.length fc] 96)) (·<B0) (w.heap.size+1) sb (.slice (some ⟨pb,po,none⟩) pl c) Z (i*200+k*30) V _ (h1.keep b9) ((hTR.under ((HSW.out w8 h2).mono HBL.out)).under (b9.mono (by have:=HBL.out;omega))) (by omega) (by omega))
   have HVB:=aA0 (fun b hb=>(h1.l.bd b hb).1);have HLO:=aA0 h1.lo;have HB9:=aA0 (h2.trans (b9.mono z8));have m0:=(aA1 n9 0 (by simp)).1
   have m1:=(aA1 n9 1 (by simp)).1
   have m2:=(aA1 n9 2 (by simp)).1
   simp only[List.getElem_toArray,List.getElem_cons_succ,List.getElem_cons_zero] at m0 m1 m2;clear hTR hTC h1 h2 b9 n9;go_upto_region 8 with fail
   generalize w8.alloc (.cells #[.string t.name,.string t.key,.slice fa t.fields.length fc] 96)=w9 at*;go_wp2_with fail
   refine HLK.out.mono ?_;rintro e w10 ⟨rfl,hI⟩;have z9:w.heap.size+1<=w9.heap.size:=by have:=HB9.out.size;have:=HZ0.out;omega
   have HFIN:Hid ((∃V,SuM w10 (·<B0) (w.heap.size+1) sb (.slice (some ⟨pb,po,none⟩) pl c) (Y.tys i p (k+1)) (i*200+(k+1)*30) V)∧Below (w.heap.size+1) w0 w10):=aA0 (by
    have hl:=hI.lows HVB.out HLO.out z9;obtain⟨V',g1,-⟩:=hI;rw[HSK.out];exact⟨⟨V',g1.mono (by omega)⟩,HB9.out.trans hl⟩)
   clear hI HLK;go_wp2_with fail
   go_roundw
   case rel=>exact⟨k+1,by omega,by go_num,HFIN⟩
   case measure=>simp[intOf];omega
  ·have hki:¬(k:Int)<(tl:Int):=by omega
   have e:k=tl:=by omega
   subst e;have HFIN:Hid ((∃V,SuM w8 (·<B0) (w.heap.size+1) sb (.slice (some ⟨pb,po,none⟩) pl c) (suTo ps (i+1)) ((i+1)*200) V)∧Below (w.heap.size+1) w0 w8):=aA0 (by
    obtain⟨⟨V',g1⟩,g2⟩:=HK.out;rw[HSI.out];exact⟨⟨V',g1.mono (by omega)⟩,g2⟩)
   go_wp2_with fail
   exact⟨⟨i+1,by omega,by go_num,HFIN⟩,by simp[intOf];omega⟩
 ·have hii:¬(i:Int)<(pl:Int):=by omega
  have e:i=pl:=by omega
  subst e;obtain⟨⟨V,h1⟩,h2⟩:=HJ.out;have hb:=h1.box;have hr:=(h2.block w.heap.size (by have:=HZ0.out;omega)).trans HN0.out
  have HSU:Hid (suTo ps i=suM ps):=aA0 (by rw[HPL.out];rfl)
  have HH1:=aA0 h1;have HH2:=aA0 h2;have hbL:=HBL.out;obtain⟨p1,r1,k1,hk1⟩:=aC3 h1.l.l1.keys;obtain⟨p2,r2,k2,hk2⟩:=aC3 h1.l.l2.keys;obtain⟨p3,r3,k3,hk3⟩:=aC3 h1.l.l3.keys;obtain⟨p4,r4,k4,hk4⟩:=aC3 h1.l.l4.keys;have HV:Hid (V.cells (.slice a i c)=#[.slice a i c,.slice p1 r1 k1,.map (some V.m1),.slice p2 r2 k2,.map (some V.m2),.slice p3 r3 k3,.map (some V.m3),.slice p4 r4 k4,.map (some V.m4)]):=aA0 (by unfold Sv.cells;rw[hk1,hk2,hk3,hk4])
  rw[HV.out] at hb;clear hk1 hk2 hk3 hk4;have HRR:=aA0 (aVO hr (.slice a i c) (.slice p1 r1 k1) (.map (some V.m1)) (.slice p2 r2 k2) (.map (some V.m2)) (.slice p3 r3 k3) (.map (some V.m3)) (.slice p4 r4 k4) (.map (some V.m4)));have d0:=(aA1 hb 0 (by simp)).1
  have d1:=(aA1 hb 1 (by simp)).1
  have d2:=(aA1 hb 2 (by simp)).1
  have d3:=(aA1 hb 3 (by simp)).1
  have d4:=(aA1 hb 4 (by simp)).1
  have d5:=(aA1 hb 5 (by simp)).1
  have d6:=(aA1 hb 6 (by simp)).1
  have d7:=(aA1 hb 7 (by simp)).1
  have d8:=(aA1 hb 8 (by simp)).1
  obtain⟨o0,y0⟩:=aA1 hr 0 (by simp)
  obtain⟨o1,y1⟩:=aA1 hr 1 (by simp)
  obtain⟨o2,y2⟩:=aA1 hr 2 (by simp)
  obtain⟨o3,y3⟩:=aA1 hr 3 (by simp)
  obtain⟨o4,y4⟩:=aA1 hr 4 (by simp)
  obtain⟨o5,y5⟩:=aA1 hr 5 (by simp)
  obtain⟨o6,y6⟩:=aA1 hr 6 (by simp)
  obtain⟨o7,y7⟩:=aA1 hr 7 (by simp)
  obtain⟨o8,y8⟩:=aA1 hr 8 (by simp)
  simp only[List.getElem_toArray,List.getElem_cons_succ,List.getElem_cons_zero] at d0 d1 d2 d3 d4 d5 d6 d7 d8 o0 o1 o2 o3 o4 o5 o6 o7 o8;have HKW:Hid (∀W',(∀b,b≠w.heap.size->W'.heap[b]?=w6.heap[b]?)->W'.heap.size=w6.heap.size->Below w.heap.size w6 W'->SuL W' (·<B0) (w.heap.size+1) (suM ps) 1000 V∧Below w.heap.size w W'):=aA0 fun W' g1 g2 g3=>by
   rw[<-HSU.out];refine⟨(HH1.out.l.keep (fun b hb=>g1 b (by have:=(HH1.out.l.bd b hb).1;omega)) (fun b hb=>g1 b (by have hb:b<B0:=hb;omega)) (by omega)).mono (by omega),(HSW.out w6 HH2.out).trans g3⟩
  clear hb hr h1 h2 HJ;go_wp2_with fail
  obtain⟨t0,t1,t2,t3⟩:=HRR.out _ rfl;obtain⟨u1,u2⟩:=HKW.out _ t1 t2 t3;have e0:=(aA1 t0 0 (by simp)).1
  have e1:=(aA1 t0 1 (by simp)).1
  have e2:=(aA1 t0 2 (by simp)).1
  have e3:=(aA1 t0 3 (by simp)).1
  have e4:=(aA1 t0 4 (by simp)).1
  have e5:=(aA1 t0 5 (by simp)).1
  have e6:=(aA1 t0 6 (by simp)).1
  have e7:=(aA1 t0 7 (by simp)).1
  have e8:=(aA1 t0 8 (by simp)).1
  exact bodyPost_ret (aSM _ _ w.heap.size (.slice a i c) (.slice p1 r1 k1) (.map (some V.m1)) (.slice p2 r2 k2) (.map (some V.m2)) (.slice p3 r3 k3) (.map (some V.m3)) (.slice p4 r4 k4) (.map (some V.m4)) rfl e0 e1 e2 e3 e4 e5 e6 e7 e8) rfl ⟨V,by rw[HV.out],u1,u2⟩
def aJV(w:World)(ns:List ByteArray)(a:Option Addr):Prop:=0<ns.length->∃g,a=some ⟨g,0,none⟩∧g<w.heap.size∧∀i,i<ns.length->w.cell? ⟨g,i,none⟩=some (.string (nth ns i))
theorem aJV.under{w W:World}{ns:List ByteArray}{a:Option Addr}(h:aJV w ns a)(hW:Below w.heap.size w W):aJV W ns a:=fun hn=>by
 obtain⟨g,e,hg,hc⟩:=h hn;exact⟨g,e,Nat.lt_of_lt_of_le hg hW.size,fun i hi=>(hW.cell (p:=⟨g,i,none⟩) hg).trans (hc i hi)⟩
theorem aJV.row{w:World}{B:Nat}{a:Option Addr}{n c:Nat}{ns:List ByteArray}(h:w.ownsRow B 9 1 (.slice a n c) n (ns.map Value.string)):n=ns.length∧aJV w ns a:=by
 have hl:=h.1;rw[List.length_map] at hl;have hn:n=ns.length:=by omega
 subst hn;refine⟨rfl,fun h0=>?_⟩;rcases h.2 with⟨-,e⟩| ⟨g,cap,cur,e,hb,hh,r⟩
 ·omega
 ·cases e;have hg:=h.lt g rfl;refine⟨g,rfl,hg.2,fun i hi=>?_⟩;rw[h.cellAt i (by omega)]
  simp[nth,List.getD_eq_getElem?_getD,hi]
theorem aCN.rep{w:World}{P:Nat->Prop}{B:Nat}{L:List F}{xs:List Value}{a:Option Addr}{n c:Nat}(h:aCN w P L xs)(ho:w.ownsRow B 80 8 (.slice a n c) n xs)(hP:∀b,P b->b<w.heap.size)(hL:L.length<=1000000):n=L.length∧aBJ w (·<w.heap.size) L a:=by
 have hl:=ho.1;rw[h.1] at hl;have hn:n=L.length:=by omega
 subst hn;have hk:∀i,∃r:Option Addr× Nat,i<L.length->(∀j,j<8->xs[i*8+j]?=(fcl (fth L i) r.1 r.2)[j]?)∧FRep w P (fth L i) (.agg (fcl (fth L i) r.1 r.2).toArray):=fun i=>by
  by_cases hi:i<L.length
  ·obtain⟨na,nc,h1⟩:=h.2 i hi;exact⟨(na,nc),fun _=>h1⟩
  ·exact⟨(none,0),fun h=>absurd h hi⟩
 obtain⟨f,hf⟩:=Classical.skolem.1 hk;refine⟨rfl,by omega,fun i j=>(fcl (fth L i) (f i).1 (f i).2).getD j undef,fun h0=>?_,fun i hi=>?_⟩
 ·rcases ho.2 with⟨-,e⟩| ⟨g,cap,cur,e,hb,hh,r⟩
  ·omega
  ·cases e;have hg:=ho.lt g rfl;refine⟨g,0,rfl,hg.2,fun i hi j hj=>?_⟩;have h1:=(hf i hi).1 j hj;have h2:=ho.cellAt (i*8+j) (by omega)
   rw[show 0+i*8+j=i*8+j by omega,h2,h1]
   have hlen:(fcl (fth L i) (f i).1 (f i).2).length=8:=rfl;show _=some ((fcl (fth L i) (f i).1 (f i).2).getD j undef);rw[List.getD_eq_getElem?_getD,List.getElem?_eq_getElem (by omega)]
   rfl
 ·exact(hf i hi).2.sub fun b hb=>hP b hb
section
variable {w:World} {P:Nat->Prop} {B:Nat} {X:Su} {c:Nat} {V:Sv}
theorem SuL.under{W:World}(h:SuL w P B X c V)(hP:∀b,P b->b<B)(hB:B<=w.heap.size)(hW:Below w.heap.size w W):SuL W P B X c V:=h.keep (fun b hb=>hW.block b (h.bd b hb).2) (fun b hb=>hW.block b (by have:=hP b hb;omega)) hW.size
theorem SuL.form(h:SuL w P B X c V)(pv:Value):∃p1 r1 k1 p2 r2 k2 p3 r3 k3 p4 r4 k4,V.cells pv=#[pv,.slice p1 r1 k1,.map (some V.m1),.slice p2 r2 k2,.map (some V.m2),.slice p3 r3 k3,.map (some V.m3),.slice p4 r4 k4,.map (some V.m4)]:=by
 obtain⟨p1,r1,k1,hk1⟩:=aC3 h.l1.keys;obtain⟨p2,r2,k2,hk2⟩:=aC3 h.l2.keys;obtain⟨p3,r3,k3,hk3⟩:=aC3 h.l3.keys;obtain⟨p4,r4,k4,hk4⟩:=aC3 h.l4.keys;exact⟨p1,r1,k1,p2,r2,k2,p3,r3,k3,p4,r4,k4,by unfold Sv.cells;rw[hk1,hk2,hk3,hk4]⟩
theorem aJ9{I:Value->Prop}{F:Nat->Prop}{kT kn eT en m KL:_}{kv:Value}{KS:List Value}{GL:Value->List Value}(h:Lst w F I B kT kn eT en kv m KL KS GL)(hen:0<en)(key:Value):∃G a L k,aDI w I m G∧(G key).getD (.slice none 0 0)=.slice a L k∧w.ownsRow B eT en (.slice a L k) L (GL key):=by
 obtain⟨G,hO,hG⟩:=h.map;obtain⟨L,h1,h2,h3⟩:=hG.found hen key;rcases h2 with⟨-,e⟩| ⟨-,-,g,cap,e⟩
 ·have hL:L=0:=by
   rcases h1.2 with⟨-,e2⟩| ⟨g,cap,cur,e2,-⟩
   ·exact e2
   ·rw[e] at e2;cases e2
  subst hL;rw[e] at h1;exact⟨G,none,0,0,hO,e,h1⟩
 ·rw[e] at h1;exact⟨G,_,L,cap,hO,e,h1⟩
theorem SuL.keys(h:SuL w P B X c V)(nm:ByteArray):∃a k,aJV w (X.ky nm) a∧∀W,Below w.heap.size w W->(Instr.lookup 135 (.map (some V.m2)) (.string nm) false).run Tryz.prog W=.ok (.slice a (X.ky nm).length k) W:=by
 obtain⟨G,a,L,k,hO,e,hr⟩:=aJ9 h.l2 (by decide) (.string nm)
 rw[h.e2] at hr;obtain⟨rfl,hs⟩:=aJV.row hr;refine⟨a,k,hs,fun W hW=>?_⟩;have:=(hO.of_block (hW.block V.m2 h.l2.mlt.2)).lookG false (keyS W) Tryz.underlying135 (aGR W) (x:=.string nm) ⟨_,rfl⟩;rw[e] at this;simpa using this
theorem SuL.names(h:SuL w P B X c V)(nm:ByteArray):∃a k,aJV w (X.tf nm) a∧∀W,Below w.heap.size w W->(Instr.lookup 135 (.map (some V.m1)) (.string nm) false).run Tryz.prog W=.ok (.slice a (X.tf nm).length k) W:=by
 obtain⟨G,a,L,k,hO,e,hr⟩:=aJ9 h.l1 (by decide) (.string nm)
 rw[h.e1] at hr;obtain⟨rfl,hs⟩:=aJV.row hr;refine⟨a,k,hs,fun W hW=>?_⟩;have:=(hO.of_block (hW.block V.m1 h.l1.mlt.2)).lookG false (keyS W) Tryz.underlying135 (aGR W) (x:=.string nm) ⟨_,rfl⟩;rw[e] at this;simpa using this
theorem SuL.types(h:SuL w P B X c V):∃a k,V.kv1=.slice a X.tn.length k∧aJV w X.tn a:=by
 obtain⟨a,n,k,e⟩:=aC3 h.l1.keys;have hr:=h.l1.keys;rw[e] at hr;rcases hr.2 with⟨e2,e3⟩| ⟨g,cap,cur,e2,-⟩
 ·cases e2;exact⟨none,0,by rw[e,e3],fun h0=>by omega⟩
 ·cases e2;exact⟨_,_,e,(aJV.row hr).2⟩
theorem SuL.flds(h:SuL w P B X c V)(hP:∀b,P b->b<B)(hB:B<=w.heap.size)(hc:c<=100000)(nm n:ByteArray):∃a k,aBJ w (·<w.heap.size) (X.sd nm n) a∧∀W,Below w.heap.size w W->(Instr.lookup 139 (.map (some V.m3)) (fk nm n) false).run Tryz.prog W=.ok (.slice a (X.sd nm n).length k) W:=by
 obtain⟨G,a,L,k,hO,e,hr⟩:=aJ9 h.l3 (by decide) (fk nm n)
 obtain⟨rfl,hs⟩:=(h.e3 nm n).rep hr (fun b hb=>by have:=hP b hb;omega) (by have:=h.le.sd nm n;omega)
 refine⟨a,k,hs,fun W hW=>?_⟩;have:=(hO.of_block (hW.block V.m3 h.l3.mlt.2)).lookG false (keyF W) Tryz.underlying139 (aH3 W) (x:=fk nm n) ⟨_,_,rfl⟩;rw[e] at this;simpa using this
theorem SuL.owns(h:SuL w P B X c V)(hc:c<=100000)(nm n:ByteArray):∃a k,Ints w (fun b=>V.f4 b) ((X.ow nm n).map fun(i:Nat)=>(i:Int)) a∧(X.ow nm n).length<=k∧∀W,Below w.heap.size w W->(Instr.lookup 142 (.map (some V.m4)) (fk nm n) false).run Tryz.prog W=.ok (.slice a (X.ow nm n).length k) W:=by
 obtain⟨G,hO,hG⟩:=h.l4.map;obtain⟨L,h1,h2,h3⟩:=hG.found (by decide) (fk nm n)
 have he:=h.e4 nm n;have hlk:∀v,(G (fk nm n)).getD (.slice none 0 0)=v->∀W,Below w.heap.size w W->(Instr.lookup 142 (.map (some V.m4)) (fk nm n) false).run Tryz.prog W=.ok v W:=fun v e W hW=>by
  have:=(hO.of_block (hW.block V.m4 h.l4.mlt.2)).lookG false (keyF W) Tryz.underlying142 (aIU W) (x:=fk nm n) ⟨_,_,rfl⟩;rw[e] at this;simpa using this
 have hle:=h.le.ow nm n;rcases h2 with⟨e1,e2⟩| ⟨e1,e2,g,cap,e3⟩
 ·have h5:X.ow nm n=[]:=by rw[e1] at he;simpa using he.symm
  rw[h5];exact⟨none,0,Ints.nil _ _ _,Nat.le_refl _,hlk _ e2⟩
 ·rw[e3,he] at h1;have h5:=h1.1;rw[List.length_map] at h5;have hL:L=(X.ow nm n).length:=by omega
  subst hL;rw[e3] at h3;have hcap:(X.ow nm n).length<=cap:=by
   rcases h1.2 with⟨e,-⟩| ⟨g',cap',cur,e,-,-,hn,-⟩
   ·cases e
   ·cases e;exact hn
  refine⟨_,cap,⟨by rw[List.length_map];omega,fun _=>⟨g,0,rfl,h3 g rfl,fun i hi=>?_⟩⟩,hcap,hlk _ e3⟩
  rw[List.length_map] at hi;rw[Nat.zero_add,h1.cellAt i (by omega)]
  simp[ith,List.getD_eq_getElem?_getD,hi]
end
section
variable {w:World} {P:Nat->Prop} {B:Nat} {X:Su} {c:Nat} {V:Sv}
set_option maxRecDepth 20000 in
set_option maxHeartbeats 1600000 in
theorem aJU(h:SuL w P B X c V)(pa:Option Addr)(pl pc:Nat)(nm:ByteArray):
  Calls Tryz.prog 115 #[.agg (V.cells (.slice pa pl pc)),.string nm] w fun e w'=>e=.returned (.string (aGP (X.ky nm)))∧Below w.heap.size w w':=by
 obtain⟨p1,r1,k1,p2,r2,k2,p3,r3,k3,p4,r4,k4,HV⟩:=h.form (.slice pa pl pc);rw[HV];obtain⟨a,k,hs,hlk⟩:=h.keys nm;have bX:=aA2 w (.cells #[.slice pa pl pc,.slice p1 r1 k1,.map (some V.m1),.slice p2 r2 k2,.map (some V.m2),.slice p3 r3 k3,.map (some V.m3),.slice p4 r4 k4,.map (some V.m4)] 146);have hlk0:=hlk _ bX;have hs2:=hs.under bX;have hle:=h.le.ky nm;clear h hlk HV hs;cases hk:X.ky nm with
 |nil=>
  rw[hk] at hlk0;simp only[List.length_nil] at hlk0;clear hs2 hle;go_enter Tryz.func115,Tryz.ntmps115
  go_wp2_with fail
  go_ret
  exact⟨rfl,bX⟩
 |cons k0 r=>
  rw[hk] at hlk0 hs2;obtain⟨g,rfl,hg,hc⟩:=hs2 (by simp)
  have c0:=hc 0 (by simp)
  simp only[nth,List.getD_cons_zero] at c0;obtain⟨n,hn⟩:∃n,n=(k0::r).length:=⟨_,rfl⟩;rw[<-hn] at hlk0;have hn0:(0:Int)<(n:Int):=by rw[hn];simp only[List.length_cons];omega
  clear hc hle hn;go_enter Tryz.func115,Tryz.ntmps115
  go_wp2_with fail
  go_ret
  exact⟨rfl,bX⟩
theorem aPY(f:F)(na:Option Addr)(nc:Nat)(w:World):
  Calls Tryz.prog 171 #[.agg #[.string f.name,.string f.of,.bool f.list,.bool f.must,.bool f.far,.bool f.hidden,.bool f.shared,.slice na f.needs.length nc]] w fun e w'=>e=.returned (.bool (decide (0<f.needs.length)))∧Below w.heap.size w w':=by
 have bX:=aA2 w (.cells #[.string f.name,.string f.of,.bool f.list,.bool f.must,.bool f.far,.bool f.hidden,.bool f.shared,.slice na f.needs.length nc] 80);obtain⟨n,hn⟩:∃n,n=f.needs.length:=⟨_,rfl⟩;rw[<-hn] at bX ⊢;clear hn;by_cases h:0<n
 ·have hi:(0:Int)<(n:Int):=by omega
  have hd:=aA0 (decide_eq_true h);go_enter Tryz.func171,Tryz.ntmps171
  go_wp2_with fail
  go_ret
  exact⟨by first| exact aA4 hd.out.symm| rfl,bX⟩
 ·have hi:¬(0:Int)<(n:Int):=by omega
  have hd:=aA0 (decide_eq_false h);go_enter Tryz.func171,Tryz.ntmps171
  go_wp2_with fail
  go_ret
  exact⟨by first| exact aA4 hd.out.symm| rfl,bX⟩
theorem aR7(L:List F):aBL L=decide (0<=aA9 (fun i=>decide (0<(fth L i).needs.length)) L.length):=by
 unfold aBL;rcases aA8 (fun i=>decide (0<(fth L i).needs.length)) L.length with⟨h2,h3⟩| ⟨k,h2,hk,hq,-⟩
 ·rw[h2,decide_eq_false (by omega),List.any_eq_false]
  intro x hx;obtain⟨i,hi,e⟩:=List.mem_iff_getElem.1 hx;have h4:=h3 i hi;have e2:fth L i=x:=by rw[<-e];simp[fth,List.getD_eq_getElem?_getD,hi]
  rw[e2] at h4;simpa using h4
 ·rw[h2,decide_eq_true (by omega),List.any_eq_true]
  exact⟨fth L k,by simp[fth,List.getD_eq_getElem?_getD,hk],hq⟩
set_option maxHeartbeats 1600000 in
theorem aKC(L:List F)(w:World)(B:Nat)(a:Option Addr)(c:Nat)(hR:aBJ w (·<B) L a)(hB:B<=w.heap.size):
  Calls Tryz.prog 176 #[.slice a L.length c,.func (.func 171) #[] #[]] w fun e w'=>e=.returned (.int .i64 (aA9 (fun i=>decide (0<(fth L i).needs.length)) L.length))∧Below w.heap.size w w':=by
 have h64:=hR.1;have HR:=aA0 hR;have HBL:=aA0 hB;clear hR hB;obtain⟨n,HN⟩:∃n,Hid (n=L.length):=⟨_,aA0 rfl⟩;rw[<-HN.out] at h64 ⊢;go_enter Tryz.func176,Tryz.ntmps176
 go_wp2_with fail
 go_loopw [8] (fun i wr=>∃k:Nat,k<=n∧i=.int .i64 k∧Hid (∀j,j<k->decide (0<(fth L j).needs.length)=false)∧Below w.heap.size w wr) (fun i _=>n- (intOf i).toNat)
 case atStart=>exact⟨0,Nat.zero_le _,rfl,aA0 (fun j hj=>by omega),Below.refl _ _⟩
 case round=>
  obtain⟨k,hk,rfl,HQ,hb⟩:=hrel;obtain⟨w0,rfl⟩:∃x,x=wr:=⟨wr,rfl⟩;have zb:=hb.size;by_cases hlt:k<n
  case neg=>
   have e:k=n:=by omega
   subst e;have HE:=aA0 (aB3 (p:=fun i=>decide (0<(fth L i).needs.length)) HQ.out);go_wp2_with fail
   go_ret
   exact⟨by rw[HE.out]<;>rfl,hb⟩
  have hki:(k:Int)<(n:Int):=by omega
  obtain⟨fb,fo,na,nc,rfl,-,hcc⟩:=HR.out.at HBL.out k (by rw[<-HN.out];exact hlt)
  obtain⟨x0,x1,x2,x3,x4,x5,x6,x7⟩:=hcc w0 hb;have HF:=aA0 (aPY (fth L k) na nc w0);have HHK:Hid (decide (0<(fth L k).needs.length)=true->aA9 (fun i=>decide (0<(fth L i).needs.length)) n=(k:Nat)):=aA0 fun h=>aAX HQ.out h hlt;have HX:Hid (decide (0<(fth L k).needs.length)=false->∀j,j<k+1->decide (0<(fth L j).needs.length)=false):=aA0 fun h j hj=>by
   by_cases e:j=k
   ·subst e;exact h
   ·exact HQ.out j (by omega)
  clear hcc;generalize fth L k=f at*;obtain⟨nl,HNL⟩:∃x,Hid (x=f.needs.length):=⟨_,aA0 rfl⟩;rw[<-HNL.out] at HF HHK HX x7;cases hq:decide (0<nl)
  ·rw[hq] at HF;have HX2:=aA0 (HX.out hq);clear hq;go_wp2_with fail
   refine HF.out.mono ?_;rintro e w1 ⟨rfl,hb1⟩;have hb01:=hb.trans (hb1.mono zb);go_wp2_with fail
   go_roundw
   case measure=>simp[intOf];omega
   case rel=>exact⟨k+1,by omega,by go_num,HX2,hb01⟩
  ·rw[hq] at HF;have HE:=aA0 (HHK.out hq);clear hq;go_wp2_with fail
   refine HF.out.mono ?_;rintro e w1 ⟨rfl,hb1⟩;have hb01:=hb.trans (hb1.mono zb);go_wp2_with fail
   go_ret
   exact⟨by rw[HE.out]<;>rfl,hb01⟩
theorem aHG(L:List F)(w:World)(B:Nat)(a:Option Addr)(c:Nat)(hR:aBJ w (·<B) L a)(hB:B<=w.heap.size):
  Calls Tryz.prog 170 #[.slice a L.length c,.func (.func 171) #[] #[]] w fun e w'=>e=.returned (.bool (aBL L))∧Below w.heap.size w w':=by
 have HI:=aA0 (aKC L w B a c hR hB);have HE:=aA0 (aR7 L);clear hR hB;generalize aA9 (fun i=>decide (0<(fth L i).needs.length)) L.length=q at*;by_cases h0:0<=q
 ·have HD:=aA0 (decide_eq_true h0);have h1:q≥ 0:=h0;go_enter Tryz.func170,Tryz.ntmps170
  go_wp2_with (go_at_call 176;refine HI.out.mono ?_;rintro e w1 ⟨rfl,hb1⟩)
  go_ret
  exact⟨aA4 (by rw[HE.out,HD.out]),hb1⟩
 ·have HD:=aA0 (decide_eq_false h0);have h1:¬q≥ 0:=h0;go_enter Tryz.func170,Tryz.ntmps170
  go_wp2_with (go_at_call 176;refine HI.out.mono ?_;rintro e w1 ⟨rfl,hb1⟩)
  go_ret
  exact⟨aA4 (by rw[HE.out,HD.out]),hb1⟩
theorem aHV(h:SuL w P B X c V)(hP:∀b,P b->b<B)(hB:B<=w.heap.size)(hc:c<=100000)(pa:Option Addr)(pl pc:Nat)(nm n:ByteArray):
  Calls Tryz.prog 148 #[.agg (V.cells (.slice pa pl pc)),.agg #[.string nm,.string n]] w fun e w'=>e=.returned (.bool (aBL (X.sd nm n)))∧Below w.heap.size w w':=by
 obtain⟨p1,r1,k1,p2,r2,k2,p3,r3,k3,p4,r4,k4,HV⟩:=h.form (.slice pa pl pc);rw[HV];obtain⟨a,k,hs,hlk⟩:=h.flds hP hB hc nm n;have bX:=aA6 w (.cells #[.slice pa pl pc,.slice p1 r1 k1,.map (some V.m1),.slice p2 r2 k2,.map (some V.m2),.slice p3 r3 k3,.map (some V.m3),.slice p4 r4 k4,.map (some V.m4)] 146) (.cells #[.string nm,.string n] 153);have hlk0:=hlk _ bX;simp only[fk] at hlk0;have zX:=bX.size;have HC:=aA0 (aHG (X.sd nm n) _ w.heap.size a k (hs.under bX) zX);clear h hlk HV hs;go_enter Tryz.func148,Tryz.ntmps148
 go_wp2_with fail
 refine HC.out.mono ?_;rintro e w1 ⟨rfl,hb1⟩;have hb2:=bX.trans (hb1.mono zX);go_wp2_with fail
 go_ret
 exact⟨rfl,hb2⟩
end
end Go.Proofs.YtcebpkeiaiiphaaGreatDoor
