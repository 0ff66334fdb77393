import Derived.Test.YtokmgbidmnanpaaGreatDoorQ37
set_option linter.unusedSimpArgs false
set_option linter.unusedVariables false
namespace Go.Proofs.YtokmgbidmnanpaaGreatDoor
open Go.RowKit
def fcT(p:Pt):Nat→Nat
 |0=>0
 |k+1=>fcT p k+(tth p.types k).fields.length+1
def fcP(ps:List Pt):Nat→Nat
 |0=>0
 |i+1=>fcP ps i+fcT (pth ps i) (pth ps i).types.length
theorem aTM(p:Pt){k j:Nat}(h:k≤j):fcT p k≤fcT p j:=by
 induction h with
 |refl=>exact Nat.le_refl _
 |step _ ih=>rw[fcT];omega
theorem aUA(ps:List Pt){k j:Nat}(h:k≤j):fcP ps k≤fcP ps j:=by
 induction h with
 |refl=>exact Nat.le_refl _
 |step _ ih=>rw[fcP];omega
def BdH(out:List T)(M:Nat):Prop:=out.length≤M∧∀i,i<out.length→(tth out i).fields.length≤M
theorem aSW(t:T)(f:F):(putF t f).fields.length≤t.fields.length+1:=by
 unfold putF
 split<;>simp
theorem aRH(o t:T)(n:Nat):(aGL o t n).fields.length≤o.fields.length+n:=by
 induction n with
 |zero=>exact Nat.le_refl _
 |succ n ih=>
  rw[aGL]
  have:=aSW (aGL o t n) (fth t.fields n)
  omega
def aE4(ps:List Pt)(out:List T)(t:T):List T:=if 0≤tyIx out t.name then out else out++[⟨t.name,keyM ps t.name,[]⟩]
def atT(out:List T)(t:T):Nat:=if 0≤tyIx out t.name then(tyIx out t.name).toNat else out.length
theorem aS8(ps:List Pt)(out:List T)(t:T):atT out t<(aE4 ps out t).length:=by
 unfold atT aE4
 split
 ·rename_i h
  have hx:tyIx out t.name=aAI (fun i=>(tth out i).name.toList==t.name.toList) out.length:=rfl
  rcases aAB (fun i=>(tth out i).name.toList==t.name.toList) out.length with⟨h2,-⟩| ⟨g,h2,hg,-,-⟩
  ·rw[hx,h2] at h;omega
  ·rw[hx,h2];simpa using hg
 ·simp
def midT(ps:List Pt)(out:List T)(t:T)(n:Nat):List T:=(aE4 ps out t).set (atT out t) (aGL (tth (aE4 ps out t) (atT out t)) t n)
theorem aL3(ts:List T)(k:Nat):ts.set k (tth ts k)=ts:=by
 apply List.ext_getElem?
 intro i
 by_cases e:k=i
 ·subst e
  by_cases h:k<ts.length
  ·rw[List.getElem?_set_self h]
   simp[tth,List.getD_eq_getElem?_getD,h]
  ·rw[List.getElem?_eq_none (by simp;omega),List.getElem?_eq_none (by omega)]
 ·rw[List.getElem?_set_ne e]
theorem aR3(ps:List Pt)(out:List T)(t:T):midT ps out t 0=aE4 ps out t:=by
 unfold midT
 rw[aGL]
 exact aL3 _ _
theorem aLV(ps:List Pt)(out:List T)(t:T)(n:Nat):(midT ps out t n).length=(aE4 ps out t).length:=by simp[midT]
theorem aRY(ps:List Pt)(out:List T)(t:T)(n:Nat):tth (midT ps out t n) (atT out t)=aGL (tth (aE4 ps out t) (atT out t)) t n:=by
 unfold midT
 exact aHL _ _ _ (aS8 ps out t)
theorem aRW(ps:List Pt)(out:List T)(t:T)(n:Nat):midT ps out t (n+1)=(midT ps out t n).set (atT out t) (putF (tth (midT ps out t n) (atT out t)) (fth t.fields n)):=by
 rw[aRY]
 unfold midT
 rw[List.set_set]
 rfl
theorem aJT(ps:List Pt)(out:List T)(t:T):midT ps out t t.fields.length=aQP ps out t:=by
 unfold midT aQP aE4 atT
 by_cases h:0≤tyIx out t.name
 ·simp only[if_pos h]
 ·simp only[if_neg h]
  rw[aEW]
  simp
theorem BdH.base{ps:List Pt}{out:List T}{M:Nat}(h:BdH out M)(t:T):BdH (aE4 ps out t) (M+1):=by
 unfold aE4
 split
 ·exact⟨Nat.le_succ_of_le h.1,fun i hi=>Nat.le_succ_of_le (h.2 i hi)⟩
 ·refine⟨by simpa using h.1,fun i hi=>?_⟩
  have hi':i<out.length+1:=by simpa using hi
  by_cases e:i<out.length
  ·rw[aGD _ _ _ e];exact Nat.le_succ_of_le (h.2 i e)
  ·have:i=out.length:=by omega
   subst this
   rw[aEW]
   exact Nat.zero_le _
theorem BdH.mid{ps:List Pt}{out:List T}{M:Nat}(h:BdH out M)(t:T)(n:Nat):BdH (midT ps out t n) (M+n+1):=by
 have hb:=h.base (ps:=ps) t
 refine⟨by rw[aLV];have:=hb.1;omega,fun i hi=>?_⟩
 rw[aLV] at hi
 by_cases e:i=atT out t
 ·subst e
  rw[aRY]
  have:=aRH (tth (aE4 ps out t) (atT out t)) t n
  have:=hb.2 _ hi
  omega
 ·unfold midT
  rw[aH7 _ _ _ _ e]
  have:=hb.2 _ hi
  omega
theorem BdH.types{ps:List Pt}{p:Pt}{out:List T}{M:Nat}(h:BdH out M)(k:Nat):BdH (aCJ ps p out k) (M+fcT p k):=by
 induction k with
 |zero=>exact h
 |succ k ih=>
  rw[aCJ,fcT,←aJT]
  have:=ih.mid (ps:=ps) (tth p.types k) (tth p.types k).fields.length
  rw[show M+(fcT p k+(tth p.types k).fields.length+1)=M+fcT p k+(tth p.types k).fields.length+1 by omega]
  exact this
theorem BdH.parts(ps:List Pt)(i:Nat):BdH (aC4 ps i) (fcP ps i):=by
 induction i with
 |zero=>exact⟨Nat.le_refl _,fun i hi=>absurd hi (Nat.not_lt_zero _)⟩
 |succ i ih=>rw[aC4,fcP];exact ih.types _
end Go.Proofs.YtokmgbidmnanpaaGreatDoor
namespace Go.Proofs.YtokmgbidmnanpaaGreatDoor
open Go.RowKit Go.Maps
def aE8(h:Bool)(k:Nat)(L:List Value):List Value:=if h=true then L.set (k*8+5) (.bool true) else L
def aI0(o:Option Value)(k:Nat)(L:List Value):List Value:=match o with| none=>L| some v=>L.set (k*8+7) v
theorem aPN(h:Bool)(k:Nat)(L:List Value):(aE8 h k L).length=L.length:=by unfold aE8;split<;>simp
def aLO(h:Bool)(o:Option Value)(c:Nat→Value)(j:Nat):Value:=if j=5∧h=true then .bool true else if j=7 then o.getD (c 7) else c j
theorem aKZ(h:Bool)(o:Option Value)(k n:Nat)(C:Nat→Nat→Value)(i j:Nat)(hi:i<n)(hj:j<8):
  (aI0 o k (aE8 h k (aCP C n)))[i*8+j]?=some (if i=k then aLO h o (C k) j else C i j):=by
 have hf:=aLN C n i j hi hj
 have hH:(aE8 h k (aCP C n))[i*8+j]?=some (if i=k∧j=5∧h=true then .bool true else C i j):=by
  unfold aE8
  by_cases hh:h=true
  ·rw[if_pos hh]
   by_cases e:i=k∧j=5
   ·obtain⟨rfl,rfl⟩:=e
    rw[List.getElem?_set_self (by rw[aDA];omega),if_pos ⟨rfl,rfl,hh⟩]
   ·rw[List.getElem?_set_ne (by omega),hf,if_neg (fun x=>e ⟨x.1,x.2.1⟩)]
  ·rw[if_neg hh,hf,if_neg (fun x=>hh x.2.2)]
 cases o with
 |none=>
  show(aE8 h k (aCP C n))[i*8+j]?=_
  rw[hH]
  by_cases e:i=k
  ·subst e
   simp only[true_and,if_true,aLO,Option.getD_none]
   by_cases e2:j=5∧h=true
   ·rw[if_pos e2,if_pos e2]
   ·rw[if_neg e2,if_neg e2]
    by_cases e3:j=7
    ·rw[if_pos e3,e3]
    ·rw[if_neg e3]
  ·rw[if_neg (fun x=>e x.1),if_neg e]
 |some v=>
  show((aE8 h k (aCP C n)).set (k*8+7) v)[i*8+j]?=_
  by_cases e:i=k∧j=7
  ·obtain⟨rfl,rfl⟩:=e
   rw[List.getElem?_set_self (by rw[aPN,aDA];omega)]
   simp[aLO]
  ·rw[List.getElem?_set_ne (by omega),hH]
   by_cases e1:i=k
   ·subst e1
    have e3:j≠7:=fun x=>e ⟨rfl,x⟩
    simp only[true_and,if_true,aLO]
    by_cases e2:j=5∧h=true
    ·rw[if_pos e2,if_pos e2]
    ·rw[if_neg e2,if_neg e2,if_neg e3]
   ·rw[if_neg (fun x=>e1 x.1),if_neg e1]
theorem aKQ(fs:List F)(g:F)(k i:Nat)(h:i≠k):fth (fs.set k g) i=fth fs i:=by
 simp[fth,List.getD_eq_getElem?_getD,List.getElem?_set_ne (Ne.symm h)]
theorem aKU(fs:List F)(g:F)(k:Nat)(h:k<fs.length):fth (fs.set k g) k=g:=by
 simp[fth,List.getD_eq_getElem?_getD,List.getElem?_set_self h]
def oldF(t:T)(f:F)(k:Nat):F:={ (fth t.fields k) with hidden:=(fth t.fields k).hidden||f.hidden,needs:=if f.needs.length=0 then(fth t.fields k).needs else f.needs }
theorem aL0{t:T}{f:F}{v:Value}{na:Option Addr}{nc:Nat}{w wS:World}{P Q:Nat→Prop}{Cf:Nat→Nat→Value}{base gB capB N k:Nat}{o:Option Value}(hT:TRep w P t v)(hF:FRep w Q f (fval f na nc))(hP:∀b,P b→b<w.heap.size)(hl:t.fields.length≤1000000000)(hl2:f.needs.length≤1000000000)(hx:aAC t f.name=(k:Int))(hk:k<t.fields.length)
  (hr:∀i,i<t.fields.length→FRep w P (fth t.fields i) (.agg #[Cf i 0,Cf i 1,Cf i 2,Cf i 3,Cf i 4,Cf i 5,Cf i 6,Cf i 7])) (hb:w.heap.size≤base) (hN:N<base) (hN2:w.heap.size≤N)
  (hO:wS.ownsRow base 54 8 (.slice (some ⟨gB,0,none⟩) t.fields.length capB) t.fields.length (aI0 o k (aE8 f.hidden k (aCP Cf t.fields.length))))
  (ho:(f.needs.length=0∧o=none)∨(f.needs.length≠0∧∃gD capD,o=some (.slice (some ⟨gD,0,none⟩) f.needs.length capD)∧f.needs.length≤capD∧wS.ownsRow base 9 1 (.slice (some ⟨gD,0,none⟩) f.needs.length capD) f.needs.length (f.needs.map Value.string)))
  (hcf:t.fields.length≤capB) (bS:Below w.heap.size w wS) (v0 v1 v2:Value) (W:World) (hW:W=(((wS.setCell ⟨N,0,none⟩ v0).setCell ⟨N,1,none⟩ v1).setCell ⟨N,2,none⟩ v2)):
  ∃fa' fc',(.returned (.agg #[.string t.name,.string t.key,.slice (some ⟨gB,0,none⟩) t.fields.length capB]):Ending)=.returned (.agg #[.string t.name,.string t.key,.slice fa' (putF t f).fields.length fc'])∧TRep W (fun b=>P b∨Q b∨(w.heap.size≤b∧b<W.heap.size)) (putF t f) (.agg #[.string t.name,.string t.key,.slice fa' (putF t f).fields.length fc'])∧Below w.heap.size w W:=by
 have hp:putF t f={ t with fields:=t.fields.set k (oldF t f k) }:=by
  rw[putF,if_pos (by rw[hx];omega),hx]
  rfl
 have hln:(putF t f).fields.length=t.fields.length:=by rw[hp];simp
 have hbl:∀b,b≠N→W.heap[b]?=wS.heap[b]?:=fun b hb=>by rw[hW];exact aJI hb _ _ _ _
 have hsz:W.heap.size=wS.heap.size:=by rw[hW];exact aKG _ _ _ _
 have hbW:Below w.heap.size w W:=by rw[hW];exact aIJ bS hN2 _ _ _
 have oF:=aAT (w':=W) hO fun j hj=>by cases hj;exact hbl gB (by have:=(hO.lt gB rfl).1;omega)
 obtain⟨fa0,fc0,-,-,-,ht1,ht2⟩:=hT
 obtain⟨na',nc',-,hs,-,hf1,hf2,-⟩:=hF
 have hR:aC6 W (fun b=>P b∨Q b∨(w.heap.size≤b∧b<W.heap.size)) (t.fields.set k (oldF t f k)) (some ⟨gB,0,none⟩):=by
  refine⟨by simp;omega,fun i j=>if i=k then aLO f.hidden o (Cf k) j else Cf i j,fun _=>⟨gB,0,rfl,Or.inr (Or.inr ⟨by have:=(oF.lt gB rfl).1;omega,(oF.lt gB rfl).2⟩),fun i hi j hj=>?_⟩,fun i hi=>?_⟩
  ·have hi':i<t.fields.length:=by simpa using hi
   rw[Nat.zero_add,oF.cellAt (i*8+j) (by omega)]
   exact aKZ f.hidden o k t.fields.length Cf i j hi' hj
  ·have hi':i<t.fields.length:=by simpa using hi
   by_cases e:i=k
   ·subst e
    rw[aKU _ _ _ hk]
    simp only[if_true]
    obtain⟨na0,nc0,e0,hs0,hc0,hz1,hz2,hz3⟩:=hr i hk
    simp only[Value.agg.injEq,Array.mk.injEq,List.cons.injEq,and_true] at e0
    obtain⟨c0,c1,c2,c3,c4,c5,c6,c7⟩:=e0
    have h5:aLO f.hidden o (Cf i) 5=.bool ((fth t.fields i).hidden||f.hidden):=by
     cases hh:f.hidden<;>simp[aLO,c5]
    rcases ho with⟨hn,rfl⟩| ⟨hn,gD,capD,rfl,hcd,hoD⟩
    ·refine⟨na0,nc0,?_,?_,?_,hz1,hz2,?_⟩
     ·rw[h5]
      simp[aLO,c0,c1,c2,c3,c4,c6,c7,oldF,hn]
     ·simp only[oldF,if_pos hn]
      exact(hs0.mono fun b hb=>hbW.block b (hP b hb)).sub fun b hb=>Or.inl hb
     ·simp only[oldF,if_pos hn];exact hc0
     ·simp only[oldF,if_pos hn];exact hz3
    ·have oD:=aAT (w':=W) hoD fun j hj=>by cases hj;exact hbl gD (by have:=(hoD.lt gD rfl).1;omega)
     refine⟨some ⟨gD,0,none⟩,capD,?_,?_,?_,hz1,hz2,?_⟩
     ·rw[h5]
      simp[aLO,c0,c1,c2,c3,c4,c6,c7,oldF,hn]
     ·simp only[oldF,if_neg hn]
      exact(aS6 (n:=0) oD hs.2.1 (by unfold maxLen;omega)).sub fun b hb=>Or.inr (Or.inr ⟨by omega,hb.2⟩)
     ·simp only[oldF,if_neg hn];exact hcd
     ·simp only[oldF,if_neg hn];omega
   ·rw[aKQ _ _ _ _ e]
    simp only[if_neg e]
    exact((hr i hi').mono fun b hb=>hbW.block b (hP b hb)).sub fun b hb=>Or.inl hb
 refine⟨some ⟨gB,0,none⟩,capB,by rw[hln],⟨some ⟨gB,0,none⟩,capB,?_,?_,by rw[hln];exact hcf,?_,?_⟩,hbW⟩
 ·rw[hp]
 ·rw[hp]
  exact hR
 ·rw[hp];exact ht1
 ·rw[hp];exact ht2
end Go.Proofs.YtokmgbidmnanpaaGreatDoor
namespace Go.Proofs.YtokmgbidmnanpaaGreatDoor
open Go.RowKit Go.Maps
attribute [local go_sem] Oper.semAt_some
set_option maxRecDepth 20000 in
set_option maxHeartbeats 3200000 in
theorem aRZ(t:T)(f:F)(fa na:Option Addr)(fc nc:Nat)(w:World)(P Q:Nat→Prop)(hT:TRep w P t (.agg #[.string t.name,.string t.key,.slice fa t.fields.length fc]))(hF:FRep w Q f (fval f na nc))(hP:∀b,P b→b<w.heap.size)(hQ:∀b,Q b→b<w.heap.size)(hl:t.fields.length≤1000000000)(hl2:f.needs.length≤1000000000)(k:Nat)(hx:aAC t f.name=(k:Int))(hk:k<t.fields.length):
  Calls Tryz.prog 154 #[.agg #[.string t.name,.string t.key,.slice fa t.fields.length fc],fval f na nc] w fun e w'=>∃fa' fc',e=.returned (.agg #[.string t.name,.string t.key,.slice fa' (putF t f).fields.length fc'])∧TRep w' (fun b=>P b∨Q b∨(w.heap.size≤b∧b<w'.heap.size)) (putF t f) (.agg #[.string t.name,.string t.key,.slice fa' (putF t f).fields.length fc'])∧Below w.heap.size w w':=by
 obtain⟨iF,zF,hiF,hF0,hF1,hF2,hFz⟩:=aIH
 obtain⟨i9,hi9,hy0,hy1,hy2⟩:=info_parts aJW
 obtain⟨X,hXe⟩:∃X,X=((w.alloc (.cells #[.string t.name,.string t.key,.slice fa t.fields.length fc] 52)).alloc (.cells #[.string f.name,.string f.of,.bool f.list,.bool f.must,.bool f.far,.bool f.hidden,.bool f.shared,.slice na f.needs.length nc] 54)).alloc (.cells #[.string ⟨#[]⟩,.string ⟨#[]⟩,.slice none 0 0] 52):=⟨_,rfl⟩
 have zX:X.heap.size=w.heap.size+3:=by rw[hXe];simp
 have bw:Below w.heap.size w X:=by rw[hXe];exact(((Below.refl _ _).alloc (Nat.le_refl _) _).alloc (by simp) _).alloc (by simp<;>omega) _
 have n0:X.heap[w.heap.size]?=some (.cells #[.string t.name,.string t.key,.slice fa t.fields.length fc] 52 (0,0)):=by
  rw[hXe,(aA2 _ _).block _ (by simp<;>omega),(aA2 _ _).block _ (by simp)]
  exact aA3 _ _ rfl
 have n1:X.heap[w.heap.size+1]?=some (.cells #[.string f.name,.string f.of,.bool f.list,.bool f.must,.bool f.far,.bool f.hidden,.bool f.shared,.slice na f.needs.length nc] 54 (0,0)):=by
  rw[hXe,(aA2 _ _).block _ (by simp)]
  exact aA3 _ _ (by simp)
 have n2:X.heap[w.heap.size+1+1]?=some (.cells #[.string ⟨#[]⟩,.string ⟨#[]⟩,.slice none 0 0] 52 (0,0)):=by
  rw[hXe]
  exact aA3 _ _ (by simp)
 have HX:Hid (∀W,Below X.heap.size X W→(W.cell? ⟨w.heap.size,0,none⟩=some (.string t.name)∧W.cell? ⟨w.heap.size,1,none⟩=some (.string t.key)∧W.cell? ⟨w.heap.size,2,none⟩=some (.slice fa t.fields.length fc))∧(W.cell? ⟨w.heap.size+1,0,none⟩=some (.string f.name)∧W.cell? ⟨w.heap.size+1,1,none⟩=some (.string f.of)∧W.cell? ⟨w.heap.size+1,2,none⟩=some (.bool f.list)∧W.cell? ⟨w.heap.size+1,3,none⟩=some (.bool f.must)∧W.cell? ⟨w.heap.size+1,4,none⟩=some (.bool f.far)∧W.cell? ⟨w.heap.size+1,5,none⟩=some (.bool f.hidden)∧W.cell? ⟨w.heap.size+1,6,none⟩=some (.bool f.shared)∧W.cell? ⟨w.heap.size+1,7,none⟩=some (.slice na f.needs.length nc))∧W.heap[w.heap.size]?=some (.cells #[.string t.name,.string t.key,.slice fa t.fields.length fc] 52 (0,0))∧W.heap[w.heap.size+1+1]?=some (.cells #[.string ⟨#[]⟩,.string ⟨#[]⟩,.slice none 0 0] 52 (0,0))∧Below w.heap.size w W):=aA0 fun W hW=>by
  have h0:=(hW.block _ (by omega)).trans n0
  have h1:=(hW.block _ (by omega)).trans n1
  exact⟨⟨(aA1 h0 0 (by simp)).1,(aA1 h0 1 (by simp)).1,(aA1 h0 2 (by simp)).1⟩,⟨(aA1 h1 0 (by simp)).1,(aA1 h1 1 (by simp)).1,(aA1 h1 2 (by simp)).1,(aA1 h1 3 (by simp)).1,(aA1 h1 4 (by simp)).1,(aA1 h1 5 (by simp)).1,(aA1 h1 6 (by simp)).1,(aA1 h1 7 (by simp)).1⟩,h0,(hW.block _ (by omega)).trans n2,bw.trans (hW.mono (by omega))⟩
 have hT':=hT
 obtain⟨fa',fc',e,hFs,-⟩:=hT
 simp only[Value.agg.injEq,Array.mk.injEq,List.cons.injEq,Value.slice.injEq,true_and,and_true] at e
 obtain⟨rfl,rfl⟩:=e
 obtain⟨h64,Cf,hAr,hCr⟩:=hFs
 have HLF:Hid (∀W,Below X.heap.size X W→aGH W fa t.fields.length (aCP Cf t.fields.length)):=aA0 fun W hW=>aKK (hAr.mono fun b hb=>(HX.out W hW).2.2.2.2.block b (hP b hb))
 have HOF:Hid (∀u∈ aCP Cf t.fields.length,u.oneCell'=true):=aA0 (aNH hCr)
 have HNS:Hid (Strs w Q f.needs na):=aA0 (by
  obtain⟨na',nc',e,h1,-⟩:=hF
  unfold fval at e
  simp only[Value.agg.injEq,Array.mk.injEq,List.cons.injEq,Value.slice.injEq,true_and,and_true] at e
  obtain⟨rfl,rfl⟩:=e
  exact h1)
 have HLN:Hid (∀W,Below X.heap.size X W→aGH W na f.needs.length (f.needs.map Value.string)):=aA0 fun W hW=>aND (HNS.out.mono fun b hb=>(HX.out W hW).2.2.2.2.block b (hQ b hb))
 have HFI:=aA0 (fun W (hW:Below X.heap.size X W)=>aCL t W w.heap.size _ f.name ((hT'.mono fun b hb=>(HX.out W hW).2.2.2.2.block b (hP b hb)).sub fun b hb=>hP b hb) (HX.out W hW).2.2.2.2.size)
 have HFX:Hid (aAC t f.name=aAI (fun i=>(fth t.fields i).name.toList==f.name.toList) t.fields.length):=aA0 rfl
 rw[←HFX.out,hx] at HFI
 have HCR:=aA0 (And.intro hAr hCr)
 have HT':=aA0 hT'
 have HF':=aA0 hF
 obtain⟨⟨x0,x1,x2⟩,⟨y0,-⟩,-⟩:=HX.out X (Below.refl _ _)
 rw[hXe] at x0 x1 x2 y0
 unfold fval
 go_enter Tryz.func154,Tryz.ntmps154
 clear hAr hCr hT' hF n0 n1 n2 HFX
 go_wp2_with fail
 clear x0 x1 x2 y0
 rw[←hXe]
 clear hXe
 refine(HFI.out X (Below.refl _ _)).mono ?_
 rintro e w1 ⟨rfl,hb1⟩
 have zw1:=hb1.size
 have nA:=aA3 (w:=w1) (N:=w1.heap.size) #[] 54 rfl
 have bA:=hb1.trans ((aA2 w1 (.cells #[] 54)).mono hb1.size)
 have c2:=(HX.out _ bA).1.2.2
 go_wp2_with (
  at_builtin
  refine aD4 rfl _ _ 50 rfl X.heap.size 54 iF zF 8 64 Tryz.underlying50 hiF hF0 hF1 hF2 hFz (by decide) w1.heap.size 0 0 [] rfl ⟨rfl,Or.inr ⟨_,0,_,rfl,hb1.size,nA,Nat.le_refl _,by unfold maxLen;omega,rfl,rfl⟩⟩ fa t.fields.length fc (aCP Cf t.fields.length) rfl (aDA _ _) (HLF.out _ bA) HOF.out (by unfold maxLen;omega) (by omega) bA.size ?_
  intro gB capB wB oB hgrB hatB
  refine Hid.out ?_)
 refine aA0 ?_
 have bB:=bA.grown hgrB bA.size (fun k hk=>by cases hk;exact hb1.size)
 simp only[Nat.zero_add,List.nil_append] at oB ⊢
 have qB:=(oB.lt gB rfl).1
 clear c2 nA bA hgrB hatB
 have hcf:t.fields.length≤capB:=by obtain⟨-,h| ⟨_,_,_,h,-,-,h2,-⟩⟩:=oB<;>simp_all
 cases hh:f.hidden
 ·have y5:=(HX.out _ bB).2.1.2.2.2.2.2.1
  rw[hh] at y5
  have bH:=bB
  have oH:=oB
  rcases Nat.eq_zero_or_pos f.needs.length with hn| hn
  ·have y7:=(HX.out _ bH).2.1.2.2.2.2.2.2.2
   rw[hn] at y7
   have bX:=bH
   have oX:(wB).ownsRow X.heap.size 54 8 (.slice (some ⟨gB,0,none⟩) t.fields.length capB) t.fields.length (aI0 none k (aE8 f.hidden k (aCP Cf t.fields.length))):=by rw[hh];exact oH
   clear oB oH
   have c2:=(HX.out _ bX).1.2.2
   have z2:=(aA1 (HX.out _ bX).2.2.1 2 (by simp)).2
   have hn0:((wB).setCell ⟨w.heap.size,2,none⟩ (.slice (some ⟨gB,0,none⟩) t.fields.length capB)).heap[w.heap.size]?=some (.cells #[.string t.name,.string t.key,(.slice (some ⟨gB,0,none⟩) t.fields.length capB)] 52 (0,0)):=aA9 (HX.out _ bX).2.2.1 2 _
   have hkS:∀b,b≠w.heap.size→((wB).setCell ⟨w.heap.size,2,none⟩ (.slice (some ⟨gB,0,none⟩) t.fields.length capB)).heap[b]?=(wB).heap[b]?:=fun b hb=>Below.heap_setCell _ _ _ _ hb
   have hn2:=(hkS (w.heap.size+1+1) (by omega)).trans (HX.out _ bX).2.2.2.1
   have bS:Below w.heap.size w ((wB).setCell ⟨w.heap.size,2,none⟩ (.slice (some ⟨gB,0,none⟩) t.fields.length capB)):=(HX.out _ bX).2.2.2.2.setCell (Nat.le_refl _) _
   have oS:=aAT oX fun j hj=>by cases hj;exact hkS gB (by omega)
   have ho:=True.intro
   have HO:=aA0 (And.intro oS ho)
   have HBS:=aA0 bS
   obtain⟨a0,-⟩:=aA1 hn0 0 (by simp)
   obtain⟨a1,-⟩:=aA1 hn0 1 (by simp)
   obtain⟨a2,-⟩:=aA1 hn0 2 (by simp)
   obtain⟨r0,s0⟩:=aA1 hn2 0 (by simp)
   obtain⟨r1,s1⟩:=aA1 hn2 1 (by simp)
   obtain⟨r2,s2⟩:=aA1 hn2 2 (by simp)
   clear oX oS ho hkS bS bX
   go_wp2_with fail
   obtain⟨d0,d1,d2⟩:=aDY hn2 rfl (.string t.name) (.string t.key) (.slice (some ⟨gB,0,none⟩) t.fields.length capB)
   refine bodyPost_ret (aEK _ _ (w.heap.size+1+1) _ _ _ rfl d0 d1 d2) rfl ?_
   exact aL0 HT'.out HF'.out hP hl hl2 hx hk HCR.out.2 (by omega) (by omega) (by omega) HO.out.1 (Or.inl ⟨hn,rfl⟩) hcf HBS.out _ _ _ _ rfl
  ·have y7:=(HX.out _ bH).2.1.2.2.2.2.2.2.2
   have bC:=bH.trans ((aA2 (wB) (.cells #[] 9)).mono bH.size)
   have y7':=(HX.out _ bC).2.1.2.2.2.2.2.2.2
   have nC:=aA3 (w:=wB) (N:=wB.heap.size) #[] 9 (by simp)
   have zC:=bB.size
   have lB:=(oH.lt gB rfl).2
   go_wp2_with (
    at_builtin
    refine aD4 rfl _ _ 29 rfl X.heap.size 9 i9 (.string ByteArray.empty) 1 16 Tryz.underlying29 hi9 hy0 hy1 hy2 rfl (by decide) wB.heap.size 0 0 [] rfl ⟨rfl,Or.inr ⟨_,0,_,rfl,zC,nC,Nat.le_refl _,by unfold maxLen;omega,rfl,rfl⟩⟩ na f.needs.length nc (f.needs.map Value.string) rfl (by simp) (HLN.out _ bC) (aLX _) (by unfold maxLen;omega) (by omega) bC.size ?_
    intro gD capD wD2 oD hgrD hatD
    refine Hid.out ?_)
   refine aA0 ?_
   have hkD:∀b,b<(wB).heap.size→wD2.heap[b]?=(wB).heap[b]?:=fun b hb=>(hgrD.block b (by simp at hb ⊢;omega) (fun e=>by simp at hb e;omega)).trans ((aA2 (wB) (.cells #[] 9)).block b hb)
   have bD:=bC.grown hgrD bC.size (fun k hk=>by cases hk;exact zC)
   have hDB:gD≠gB:=by simp at lB hatD;omega
   simp only[Nat.zero_add,List.nil_append] at oD ⊢
   have oE:wD2.ownsRow X.heap.size 54 8 (.slice (some ⟨gB,0,none⟩) t.fields.length capB) t.fields.length (aI0 none k (aE8 f.hidden k (aCP Cf t.fields.length))):=by rw[hh];exact aAT oH fun j hj=>by cases hj;exact hkD gB lB
   have z7:=oE.frozenAt (k*8+7)
   have x7:=(oE.cellAt (k*8+7) (by omega)).trans (aKZ f.hidden none k t.fields.length Cf k 7 hk (by omega))
   have oX:(wD2.setCell ⟨gB,k*8+7,none⟩ (.slice (some ⟨gD,0,none⟩) f.needs.length capD)).ownsRow X.heap.size 54 8 (.slice (some ⟨gB,0,none⟩) t.fields.length capB) t.fields.length (aI0 (some (.slice (some ⟨gD,0,none⟩) f.needs.length capD)) k (aE8 f.hidden k (aCP Cf t.fields.length))):=(oE.stored (k*8+7) (.slice (some ⟨gD,0,none⟩) f.needs.length capD)).1
   have bX:=bD.setCell (show X.heap.size≤(⟨gB,k*8+7,none⟩:Addr).block from qB) (.slice (some ⟨gD,0,none⟩) f.needs.length capD)
   have oD2:=aAT (w':=wD2.setCell ⟨gB,k*8+7,none⟩ (.slice (some ⟨gD,0,none⟩) f.needs.length capD)) oD fun j hj=>by cases hj;exact Below.heap_setCell _ _ _ _ hDB
   have hcd:f.needs.length≤capD:=by obtain⟨-,h| ⟨_,_,_,h,-,-,h2,-⟩⟩:=oD<;>simp_all
   have qD:=(oD.lt gD rfl).1
   clear nC y7 y7' hgrD hatD hkD oB oH oE bC bD bH oD
   have c2:=(HX.out _ bX).1.2.2
   have z2:=(aA1 (HX.out _ bX).2.2.1 2 (by simp)).2
   have hn0:((wD2.setCell ⟨gB,k*8+7,none⟩ (.slice (some ⟨gD,0,none⟩) f.needs.length capD)).setCell ⟨w.heap.size,2,none⟩ (.slice (some ⟨gB,0,none⟩) t.fields.length capB)).heap[w.heap.size]?=some (.cells #[.string t.name,.string t.key,(.slice (some ⟨gB,0,none⟩) t.fields.length capB)] 52 (0,0)):=aA9 (HX.out _ bX).2.2.1 2 _
   have hkS:∀b,b≠w.heap.size→((wD2.setCell ⟨gB,k*8+7,none⟩ (.slice (some ⟨gD,0,none⟩) f.needs.length capD)).setCell ⟨w.heap.size,2,none⟩ (.slice (some ⟨gB,0,none⟩) t.fields.length capB)).heap[b]?=(wD2.setCell ⟨gB,k*8+7,none⟩ (.slice (some ⟨gD,0,none⟩) f.needs.length capD)).heap[b]?:=fun b hb=>Below.heap_setCell _ _ _ _ hb
   have hn2:=(hkS (w.heap.size+1+1) (by omega)).trans (HX.out _ bX).2.2.2.1
   have bS:Below w.heap.size w ((wD2.setCell ⟨gB,k*8+7,none⟩ (.slice (some ⟨gD,0,none⟩) f.needs.length capD)).setCell ⟨w.heap.size,2,none⟩ (.slice (some ⟨gB,0,none⟩) t.fields.length capB)):=(HX.out _ bX).2.2.2.2.setCell (Nat.le_refl _) _
   have oS:=aAT oX fun j hj=>by cases hj;exact hkS gB (by omega)
   have ho:=And.intro hcd (aAT oD2 fun j hj=>by cases hj;exact hkS gD (by omega))
   clear oD2
   have HO:=aA0 (And.intro oS ho)
   have HBS:=aA0 bS
   obtain⟨a0,-⟩:=aA1 hn0 0 (by simp)
   obtain⟨a1,-⟩:=aA1 hn0 1 (by simp)
   obtain⟨a2,-⟩:=aA1 hn0 2 (by simp)
   obtain⟨r0,s0⟩:=aA1 hn2 0 (by simp)
   obtain⟨r1,s1⟩:=aA1 hn2 1 (by simp)
   obtain⟨r2,s2⟩:=aA1 hn2 2 (by simp)
   clear oX oS ho hkS bS bX
   go_wp2_with fail
   obtain⟨d0,d1,d2⟩:=aDY hn2 rfl (.string t.name) (.string t.key) (.slice (some ⟨gB,0,none⟩) t.fields.length capB)
   refine bodyPost_ret (aEK _ _ (w.heap.size+1+1) _ _ _ rfl d0 d1 d2) rfl ?_
   exact aL0 HT'.out HF'.out hP hl hl2 hx hk HCR.out.2 (by omega) (by omega) (by omega) HO.out.1 (Or.inr ⟨by omega,gD,capD,rfl,HO.out.2.1,HO.out.2.2⟩) hcf HBS.out _ _ _ _ rfl
 ·have y5:=(HX.out _ bB).2.1.2.2.2.2.2.1
  rw[hh] at y5
  have z5:=oB.frozenAt (k*8+5)
  have x5:=oB.cellAt (k*8+5) (by omega)
  rw[aLN _ _ _ _ hk (by omega)] at x5
  have bH:=bB.setCell (show X.heap.size≤(⟨gB,k*8+5,none⟩:Addr).block from qB) (.bool true)
  have oH:=(oB.stored (k*8+5) (.bool true)).1
  rcases Nat.eq_zero_or_pos f.needs.length with hn| hn
  ·have y7:=(HX.out _ bH).2.1.2.2.2.2.2.2.2
   rw[hn] at y7
   have bX:=bH
   have oX:(wB.setCell ⟨gB,k*8+5,none⟩ (.bool true)).ownsRow X.heap.size 54 8 (.slice (some ⟨gB,0,none⟩) t.fields.length capB) t.fields.length (aI0 none k (aE8 f.hidden k (aCP Cf t.fields.length))):=by rw[hh];exact oH
   clear oB oH
   have c2:=(HX.out _ bX).1.2.2
   have z2:=(aA1 (HX.out _ bX).2.2.1 2 (by simp)).2
   have hn0:((wB.setCell ⟨gB,k*8+5,none⟩ (.bool true)).setCell ⟨w.heap.size,2,none⟩ (.slice (some ⟨gB,0,none⟩) t.fields.length capB)).heap[w.heap.size]?=some (.cells #[.string t.name,.string t.key,(.slice (some ⟨gB,0,none⟩) t.fields.length capB)] 52 (0,0)):=aA9 (HX.out _ bX).2.2.1 2 _
   have hkS:∀b,b≠w.heap.size→((wB.setCell ⟨gB,k*8+5,none⟩ (.bool true)).setCell ⟨w.heap.size,2,none⟩ (.slice (some ⟨gB,0,none⟩) t.fields.length capB)).heap[b]?=(wB.setCell ⟨gB,k*8+5,none⟩ (.bool true)).heap[b]?:=fun b hb=>Below.heap_setCell _ _ _ _ hb
   have hn2:=(hkS (w.heap.size+1+1) (by omega)).trans (HX.out _ bX).2.2.2.1
   have bS:Below w.heap.size w ((wB.setCell ⟨gB,k*8+5,none⟩ (.bool true)).setCell ⟨w.heap.size,2,none⟩ (.slice (some ⟨gB,0,none⟩) t.fields.length capB)):=(HX.out _ bX).2.2.2.2.setCell (Nat.le_refl _) _
   have oS:=aAT oX fun j hj=>by cases hj;exact hkS gB (by omega)
   have ho:=True.intro
   have HO:=aA0 (And.intro oS ho)
   have HBS:=aA0 bS
   obtain⟨a0,-⟩:=aA1 hn0 0 (by simp)
   obtain⟨a1,-⟩:=aA1 hn0 1 (by simp)
   obtain⟨a2,-⟩:=aA1 hn0 2 (by simp)
   obtain⟨r0,s0⟩:=aA1 hn2 0 (by simp)
   obtain⟨r1,s1⟩:=aA1 hn2 1 (by simp)
   obtain⟨r2,s2⟩:=aA1 hn2 2 (by simp)
   clear oX oS ho hkS bS bX
   go_wp2_with fail
   obtain⟨d0,d1,d2⟩:=aDY hn2 rfl (.string t.name) (.string t.key) (.slice (some ⟨gB,0,none⟩) t.fields.length capB)
   refine bodyPost_ret (aEK _ _ (w.heap.size+1+1) _ _ _ rfl d0 d1 d2) rfl ?_
   exact aL0 HT'.out HF'.out hP hl hl2 hx hk HCR.out.2 (by omega) (by omega) (by omega) HO.out.1 (Or.inl ⟨hn,rfl⟩) hcf HBS.out _ _ _ _ rfl
  ·have y7:=(HX.out _ bH).2.1.2.2.2.2.2.2.2
   have bC:=bH.trans ((aA2 (wB.setCell ⟨gB,k*8+5,none⟩ (.bool true)) (.cells #[] 9)).mono bH.size)
   have y7':=(HX.out _ bC).2.1.2.2.2.2.2.2.2
   have nC:=aA3 (w:=wB.setCell ⟨gB,k*8+5,none⟩ (.bool true)) (N:=wB.heap.size) #[] 9 (by simp)
   have zC:=bB.size
   have lB:=(oH.lt gB rfl).2
   go_wp2_with (
    at_builtin
    refine aD4 rfl _ _ 29 rfl X.heap.size 9 i9 (.string ByteArray.empty) 1 16 Tryz.underlying29 hi9 hy0 hy1 hy2 rfl (by decide) wB.heap.size 0 0 [] rfl ⟨rfl,Or.inr ⟨_,0,_,rfl,zC,nC,Nat.le_refl _,by unfold maxLen;omega,rfl,rfl⟩⟩ na f.needs.length nc (f.needs.map Value.string) rfl (by simp) (HLN.out _ bC) (aLX _) (by unfold maxLen;omega) (by omega) bC.size ?_
    intro gD capD wD2 oD hgrD hatD
    refine Hid.out ?_)
   refine aA0 ?_
   have hkD:∀b,b<(wB.setCell ⟨gB,k*8+5,none⟩ (.bool true)).heap.size→wD2.heap[b]?=(wB.setCell ⟨gB,k*8+5,none⟩ (.bool true)).heap[b]?:=fun b hb=>(hgrD.block b (by simp at hb ⊢;omega) (fun e=>by simp at hb e;omega)).trans ((aA2 (wB.setCell ⟨gB,k*8+5,none⟩ (.bool true)) (.cells #[] 9)).block b hb)
   have bD:=bC.grown hgrD bC.size (fun k hk=>by cases hk;exact zC)
   have hDB:gD≠gB:=by simp at lB hatD;omega
   simp only[Nat.zero_add,List.nil_append] at oD ⊢
   have oE:wD2.ownsRow X.heap.size 54 8 (.slice (some ⟨gB,0,none⟩) t.fields.length capB) t.fields.length (aI0 none k (aE8 f.hidden k (aCP Cf t.fields.length))):=by rw[hh];exact aAT oH fun j hj=>by cases hj;exact hkD gB lB
   have z7:=oE.frozenAt (k*8+7)
   have x7:=(oE.cellAt (k*8+7) (by omega)).trans (aKZ f.hidden none k t.fields.length Cf k 7 hk (by omega))
   have oX:(wD2.setCell ⟨gB,k*8+7,none⟩ (.slice (some ⟨gD,0,none⟩) f.needs.length capD)).ownsRow X.heap.size 54 8 (.slice (some ⟨gB,0,none⟩) t.fields.length capB) t.fields.length (aI0 (some (.slice (some ⟨gD,0,none⟩) f.needs.length capD)) k (aE8 f.hidden k (aCP Cf t.fields.length))):=(oE.stored (k*8+7) (.slice (some ⟨gD,0,none⟩) f.needs.length capD)).1
   have bX:=bD.setCell (show X.heap.size≤(⟨gB,k*8+7,none⟩:Addr).block from qB) (.slice (some ⟨gD,0,none⟩) f.needs.length capD)
   have oD2:=aAT (w':=wD2.setCell ⟨gB,k*8+7,none⟩ (.slice (some ⟨gD,0,none⟩) f.needs.length capD)) oD fun j hj=>by cases hj;exact Below.heap_setCell _ _ _ _ hDB
   have hcd:f.needs.length≤capD:=by obtain⟨-,h| ⟨_,_,_,h,-,-,h2,-⟩⟩:=oD<;>simp_all
   have qD:=(oD.lt gD rfl).1
   clear nC y7 y7' hgrD hatD hkD oB oH oE bC bD bH oD
   have c2:=(HX.out _ bX).1.2.2
   have z2:=(aA1 (HX.out _ bX).2.2.1 2 (by simp)).2
   have hn0:((wD2.setCell ⟨gB,k*8+7,none⟩ (.slice (some ⟨gD,0,none⟩) f.needs.length capD)).setCell ⟨w.heap.size,2,none⟩ (.slice (some ⟨gB,0,none⟩) t.fields.length capB)).heap[w.heap.size]?=some (.cells #[.string t.name,.string t.key,(.slice (some ⟨gB,0,none⟩) t.fields.length capB)] 52 (0,0)):=aA9 (HX.out _ bX).2.2.1 2 _
   have hkS:∀b,b≠w.heap.size→((wD2.setCell ⟨gB,k*8+7,none⟩ (.slice (some ⟨gD,0,none⟩) f.needs.length capD)).setCell ⟨w.heap.size,2,none⟩ (.slice (some ⟨gB,0,none⟩) t.fields.length capB)).heap[b]?=(wD2.setCell ⟨gB,k*8+7,none⟩ (.slice (some ⟨gD,0,none⟩) f.needs.length capD)).heap[b]?:=fun b hb=>Below.heap_setCell _ _ _ _ hb
   have hn2:=(hkS (w.heap.size+1+1) (by omega)).trans (HX.out _ bX).2.2.2.1
   have bS:Below w.heap.size w ((wD2.setCell ⟨gB,k*8+7,none⟩ (.slice (some ⟨gD,0,none⟩) f.needs.length capD)).setCell ⟨w.heap.size,2,none⟩ (.slice (some ⟨gB,0,none⟩) t.fields.length capB)):=(HX.out _ bX).2.2.2.2.setCell (Nat.le_refl _) _
   have oS:=aAT oX fun j hj=>by cases hj;exact hkS gB (by omega)
   have ho:=And.intro hcd (aAT oD2 fun j hj=>by cases hj;exact hkS gD (by omega))
   clear oD2
   have HO:=aA0 (And.intro oS ho)
   have HBS:=aA0 bS
   obtain⟨a0,-⟩:=aA1 hn0 0 (by simp)
   obtain⟨a1,-⟩:=aA1 hn0 1 (by simp)
   obtain⟨a2,-⟩:=aA1 hn0 2 (by simp)
   obtain⟨r0,s0⟩:=aA1 hn2 0 (by simp)
   obtain⟨r1,s1⟩:=aA1 hn2 1 (by simp)
   obtain⟨r2,s2⟩:=aA1 hn2 2 (by simp)
   clear oX oS ho hkS bS bX
   go_wp2_with fail
   obtain⟨d0,d1,d2⟩:=aDY hn2 rfl (.string t.name) (.string t.key) (.slice (some ⟨gB,0,none⟩) t.fields.length capB)
   refine bodyPost_ret (aEK _ _ (w.heap.size+1+1) _ _ _ rfl d0 d1 d2) rfl ?_
   exact aL0 HT'.out HF'.out hP hl hl2 hx hk HCR.out.2 (by omega) (by omega) (by omega) HO.out.1 (Or.inr ⟨by omega,gD,capD,rfl,HO.out.2.1,HO.out.2.2⟩) hcf HBS.out _ _ _ _ rfl
end Go.Proofs.YtokmgbidmnanpaaGreatDoor
