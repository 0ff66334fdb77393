import Derived.Test.YtcebpkeiaiiphaaGreatDoorRB18
set_option linter.unusedSimpArgs false
set_option linter.unusedVariables false
namespace Go.Proofs.YtcebpkeiaiiphaaGreatDoor
open Go.RowKit
def fcT(p:Pt):Nat→Nat
 |0=>0
 |k+1=>fcT p k+(tth p.types k).fields.length+1
def fcP(ps:List Pt):Nat→Nat
 |0=>0
 |i+1=>fcP ps i+fcT (pth ps i) (pth ps i).types.length
theorem aTM(p:Pt){k j:Nat}(h:k≤j):fcT p k≤fcT p j:=by
 induction h with
 |refl=>exact Nat.le_refl _
 |step _ ih=>rw[fcT];omega
theorem aVD(ps:List Pt){k j:Nat}(h:k≤j):fcP ps k≤fcP ps j:=by
 induction h with
 |refl=>exact Nat.le_refl _
 |step _ ih=>rw[fcP];omega
def BdH(out:List T)(M:Nat):Prop:=out.length≤M∧∀i,i<out.length→(tth out i).fields.length≤M
theorem aS9(t:T)(f:F):(putF t f).fields.length≤t.fields.length+1:=by
 unfold putF
 split<;>simp
theorem aQN(o t:T)(n:Nat):(aFB o t n).fields.length≤o.fields.length+n:=by
 induction n with
 |zero=>exact Nat.le_refl _
 |succ n ih=>
  rw[aFB]
  have:=aS9 (aFB o t n) (fth t.fields n)
  omega
theorem aQ3(o t:T)(n:Nat):(aFB o t n).name=o.name∧(aFB o t n).key=o.key:=by
 induction n with
 |zero=>exact⟨rfl,rfl⟩
 |succ n ih=>
  rw[aFB,putF]
  split
  ·exact ih
  ·exact ih
def aD2(ps:List Pt)(out:List T)(t:T):List T:=if 0≤tyIx out t.name then out else out++[⟨t.name,keyM ps t.name,[]⟩]
def atT(out:List T)(t:T):Nat:=if 0≤tyIx out t.name then(tyIx out t.name).toNat else out.length
theorem aOI(ps:List Pt)(out:List T)(t:T):atT out t<(aD2 ps out t).length:=by
 unfold atT aD2
 split
 ·rename_i h
  have hx:tyIx out t.name=aA9 (fun i=>(tth out i).name.toList==t.name.toList) out.length:=rfl
  rcases aA8 (fun i=>(tth out i).name.toList==t.name.toList) out.length with⟨h2,-⟩| ⟨g,h2,hg,-,-⟩
  ·rw[hx,h2] at h;omega
  ·rw[hx,h2];simpa using hg
 ·simp
def midT(ps:List Pt)(out:List T)(t:T)(n:Nat):List T:=(aD2 ps out t).set (atT out t) (aFB (tth (aD2 ps out t) (atT out t)) t n)
theorem aL1(ts:List T)(k:Nat):ts.set k (tth ts k)=ts:=by
 apply List.ext_getElem?
 intro i
 by_cases e:k=i
 ·subst e
  by_cases h:k<ts.length
  ·rw[List.getElem?_set_self h]
   simp[tth,List.getD_eq_getElem?_getD,h]
  ·rw[List.getElem?_eq_none (by simp;omega),List.getElem?_eq_none (by omega)]
 ·rw[List.getElem?_set_ne e]
theorem aM5(ps:List Pt)(out:List T)(t:T):midT ps out t 0=aD2 ps out t:=by
 unfold midT
 rw[aFB]
 exact aL1 _ _
theorem aIC(ps:List Pt)(out:List T)(t:T)(n:Nat):(midT ps out t n).length=(aD2 ps out t).length:=by simp[midT]
theorem aO3(ps:List Pt)(out:List T)(t:T)(n:Nat):tth (midT ps out t n) (atT out t)=aFB (tth (aD2 ps out t) (atT out t)) t n:=by
 unfold midT
 exact aH5 _ _ _ (aOI ps out t)
theorem aIF(ps:List Pt)(out:List T)(t:T)(n:Nat):midT ps out t (n+1)=(midT ps out t n).set (atT out t) (putF (tth (midT ps out t n) (atT out t)) (fth t.fields n)):=by
 rw[aO3]
 unfold midT
 rw[List.set_set]
 rfl
theorem aGR(ps:List Pt)(out:List T)(t:T):midT ps out t t.fields.length=aS0 ps out t:=by
 unfold midT aS0 aD2 atT
 by_cases h:0≤tyIx out t.name
 ·simp only[if_pos h]
 ·simp only[if_neg h]
  rw[aDY]
  simp
theorem BdH.base{ps:List Pt}{out:List T}{M:Nat}(h:BdH out M)(t:T):BdH (aD2 ps out t) (M+1):=by
 unfold aD2
 split
 ·exact⟨Nat.le_succ_of_le h.1,fun i hi=>Nat.le_succ_of_le (h.2 i hi)⟩
 ·refine⟨by simpa using h.1,fun i hi=>?_⟩
  have hi':i<out.length+1:=by simpa using hi
  by_cases e:i<out.length
  ·rw[aEP _ _ _ e];exact Nat.le_succ_of_le (h.2 i e)
  ·have:i=out.length:=by omega
   subst this
   rw[aDY]
   exact Nat.zero_le _
theorem BdH.mid{ps:List Pt}{out:List T}{M:Nat}(h:BdH out M)(t:T)(n:Nat):BdH (midT ps out t n) (M+n+1):=by
 have hb:=h.base (ps:=ps) t
 refine⟨by rw[aIC];have:=hb.1;omega,fun i hi=>?_⟩
 rw[aIC] at hi
 by_cases e:i=atT out t
 ·subst e
  rw[aO3]
  have:=aQN (tth (aD2 ps out t) (atT out t)) t n
  have:=hb.2 _ hi
  omega
 ·unfold midT
  rw[aFL _ _ _ _ e]
  have:=hb.2 _ hi
  omega
theorem BdH.types{ps:List Pt}{p:Pt}{out:List T}{M:Nat}(h:BdH out M)(k:Nat):BdH (aC8 ps p out k) (M+fcT p k):=by
 induction k with
 |zero=>exact h
 |succ k ih=>
  rw[aC8,fcT,←aGR]
  have:=ih.mid (ps:=ps) (tth p.types k) (tth p.types k).fields.length
  rw[show M+(fcT p k+(tth p.types k).fields.length+1)=M+fcT p k+(tth p.types k).fields.length+1 by omega]
  exact this
theorem BdH.parts(ps:List Pt)(i:Nat):BdH (aBW ps i) (fcP ps i):=by
 induction i with
 |zero=>exact⟨Nat.le_refl _,fun i hi=>absurd hi (Nat.not_lt_zero _)⟩
 |succ i ih=>rw[aBW,fcP];exact ih.types _
end Go.Proofs.YtcebpkeiaiiphaaGreatDoor
namespace Go.Proofs.YtcebpkeiaiiphaaGreatDoor
open Go.RowKit Go.Maps
def aEA(h:Bool)(k:Nat)(L:List Value):List Value:=if h=true then L.set (k*8+5) (.bool true) else L
def aHP(o:Option Value)(k:Nat)(L:List Value):List Value:=match o with| none=>L| some v=>L.set (k*8+7) v
theorem aPH(h:Bool)(k:Nat)(L:List Value):(aEA h k L).length=L.length:=by unfold aEA;split<;>simp
def aLF(h:Bool)(o:Option Value)(c:Nat→Value)(j:Nat):Value:=if j=5∧h=true then .bool true else if j=7 then o.getD (c 7) else c j
theorem aKV(h:Bool)(o:Option Value)(k n:Nat)(C:Nat→Nat→Value)(i j:Nat)(hi:i<n)(hj:j<8):
  (aHP o k (aEA h k (aCL C n)))[i*8+j]?=some (if i=k then aLF h o (C k) j else C i j):=by
 have hf:=aL2 C n i j hi hj
 have hH:(aEA h k (aCL C n))[i*8+j]?=some (if i=k∧j=5∧h=true then .bool true else C i j):=by
  unfold aEA
  by_cases hh:h=true
  ·rw[if_pos hh]
   by_cases e:i=k∧j=5
   ·obtain⟨rfl,rfl⟩:=e
    rw[List.getElem?_set_self (by rw[aD4];omega),if_pos ⟨rfl,rfl,hh⟩]
   ·rw[List.getElem?_set_ne (by omega),hf,if_neg (fun x=>e ⟨x.1,x.2.1⟩)]
  ·rw[if_neg hh,hf,if_neg (fun x=>hh x.2.2)]
 cases o with
 |none=>
  show(aEA h k (aCL C n))[i*8+j]?=_
  rw[hH]
  by_cases e:i=k
  ·subst e
   simp only[true_and,if_true,aLF,Option.getD_none]
   by_cases e2:j=5∧h=true
   ·rw[if_pos e2,if_pos e2]
   ·rw[if_neg e2,if_neg e2]
    by_cases e3:j=7
    ·rw[if_pos e3,e3]
    ·rw[if_neg e3]
  ·rw[if_neg (fun x=>e x.1),if_neg e]
 |some v=>
  show((aEA h k (aCL C n)).set (k*8+7) v)[i*8+j]?=_
  by_cases e:i=k∧j=7
  ·obtain⟨rfl,rfl⟩:=e
   rw[List.getElem?_set_self (by rw[aPH,aD4];omega)]
   simp[aLF]
  ·rw[List.getElem?_set_ne (by omega),hH]
   by_cases e1:i=k
   ·subst e1
    have e3:j≠7:=fun x=>e ⟨rfl,x⟩
    simp only[true_and,if_true,aLF]
    by_cases e2:j=5∧h=true
    ·rw[if_pos e2,if_pos e2]
    ·rw[if_neg e2,if_neg e2,if_neg e3]
   ·rw[if_neg (fun x=>e1 x.1),if_neg e1]
theorem aKT(fs:List F)(g:F)(k i:Nat)(h:i≠k):fth (fs.set k g) i=fth fs i:=by
 simp[fth,List.getD_eq_getElem?_getD,List.getElem?_set_ne (Ne.symm h)]
theorem aKG(fs:List F)(g:F)(k:Nat)(h:k<fs.length):fth (fs.set k g) k=g:=by
 simp[fth,List.getD_eq_getElem?_getD,List.getElem?_set_self h]
def oldF(t:T)(f:F)(k:Nat):F:={ (fth t.fields k) with hidden:=(fth t.fields k).hidden||f.hidden,needs:=if f.needs.length=0 then(fth t.fields k).needs else f.needs }
theorem aLL{t:T}{f:F}{v:Value}{na:Option Addr}{nc:Nat}{w wS:World}{P Q:Nat→Prop}{Cf:Nat→Nat→Value}{base gB capB N k:Nat}{o:Option Value}(hT:TRep w P t v)(hF:FRep w Q f (fval f na nc))(hP:∀b,P b→b<w.heap.size)(hl:t.fields.length≤1000000000)(hl2:f.needs.length≤1000000000)(hx:aAC t f.name=(k:Int))(hk:k<t.fields.length)
  (hr:∀i,i<t.fields.length→FRep w P (fth t.fields i) (.agg #[Cf i 0,Cf i 1,Cf i 2,Cf i 3,Cf i 4,Cf i 5,Cf i 6,Cf i 7])) (hb:w.heap.size≤base) (hN:N<base) (hN2:w.heap.size≤N)
  (hO:wS.ownsRow base 80 8 (.slice (some ⟨gB,0,none⟩) t.fields.length capB) t.fields.length (aHP o k (aEA f.hidden k (aCL Cf t.fields.length))))
  (ho:(f.needs.length=0∧o=none)∨(f.needs.length≠0∧∃gD capD,o=some (.slice (some ⟨gD,0,none⟩) f.needs.length capD)∧f.needs.length≤capD∧wS.ownsRow base 9 1 (.slice (some ⟨gD,0,none⟩) f.needs.length capD) f.needs.length (f.needs.map Value.string)))
  (hcf:t.fields.length≤capB) (bS:Below w.heap.size w wS) (v0 v1 v2:Value) (W:World) (hW:W=(((wS.setCell ⟨N,0,none⟩ v0).setCell ⟨N,1,none⟩ v1).setCell ⟨N,2,none⟩ v2)):
  ∃fa' fc',(.returned (.agg #[.string t.name,.string t.key,.slice (some ⟨gB,0,none⟩) t.fields.length capB]):Ending)=.returned (.agg #[.string t.name,.string t.key,.slice fa' (putF t f).fields.length fc'])∧TRep W (fun b=>P b∨Q b∨(w.heap.size≤b∧b<W.heap.size)) (putF t f) (.agg #[.string t.name,.string t.key,.slice fa' (putF t f).fields.length fc'])∧Below w.heap.size w W:=by
 have hp:putF t f={ t with fields:=t.fields.set k (oldF t f k) }:=by
  rw[putF,if_pos (by rw[hx];omega),hx]
  rfl
 have hln:(putF t f).fields.length=t.fields.length:=by rw[hp];simp
 have hbl:∀b,b≠N→W.heap[b]?=wS.heap[b]?:=fun b hb=>by rw[hW];exact aD3 hb _ _ _ _
 have hsz:W.heap.size=wS.heap.size:=by rw[hW];exact aFS _ _ _ _
 have hbW:Below w.heap.size w W:=by rw[hW];exact aB7 bS hN2 _ _ _
 have oF:=aB4 (w':=W) hO fun j hj=>by cases hj;exact hbl gB (by have:=(hO.lt gB rfl).1;omega)
 obtain⟨fa0,fc0,-,-,-,ht1,ht2⟩:=hT
 obtain⟨na',nc',-,hs,-,hf1,hf2,-⟩:=hF
 have hR:aBE W (fun b=>P b∨Q b∨(w.heap.size≤b∧b<W.heap.size)) (t.fields.set k (oldF t f k)) (some ⟨gB,0,none⟩):=by
  refine⟨by simp;omega,fun i j=>if i=k then aLF f.hidden o (Cf k) j else Cf i j,fun _=>⟨gB,0,rfl,Or.inr (Or.inr ⟨by have:=(oF.lt gB rfl).1;omega,(oF.lt gB rfl).2⟩),fun i hi j hj=>?_⟩,fun i hi=>?_⟩
  ·have hi':i<t.fields.length:=by simpa using hi
   rw[Nat.zero_add,oF.cellAt (i*8+j) (by omega)]
   exact aKV f.hidden o k t.fields.length Cf i j hi' hj
  ·have hi':i<t.fields.length:=by simpa using hi
   by_cases e:i=k
   ·subst e
    rw[aKG _ _ _ hk]
    simp only[if_true]
    obtain⟨na0,nc0,e0,hs0,hc0,hz1,hz2,hz3⟩:=hr i hk
    simp only[Value.agg.injEq,Array.mk.injEq,List.cons.injEq,and_true] at e0
    obtain⟨c0,c1,c2,c3,c4,c5,c6,c7⟩:=e0
    have h5:aLF f.hidden o (Cf i) 5=.bool ((fth t.fields i).hidden||f.hidden):=by
     cases hh:f.hidden<;>simp[aLF,c5]
    rcases ho with⟨hn,rfl⟩| ⟨hn,gD,capD,rfl,hcd,hoD⟩
    ·refine⟨na0,nc0,?_,?_,?_,hz1,hz2,?_⟩
     ·rw[h5]
      simp[aLF,c0,c1,c2,c3,c4,c6,c7,oldF,hn]
     ·simp only[oldF,if_pos hn]
      exact(hs0.mono fun b hb=>hbW.block b (hP b hb)).sub fun b hb=>Or.inl hb
     ·simp only[oldF,if_pos hn];exact hc0
     ·simp only[oldF,if_pos hn];exact hz3
    ·have oD:=aB4 (w':=W) hoD fun j hj=>by cases hj;exact hbl gD (by have:=(hoD.lt gD rfl).1;omega)
     refine⟨some ⟨gD,0,none⟩,capD,?_,?_,?_,hz1,hz2,?_⟩
     ·rw[h5]
      simp[aLF,c0,c1,c2,c3,c4,c6,c7,oldF,hn]
     ·simp only[oldF,if_neg hn]
      exact(aGE (n:=0) oD hs.2.1 (by unfold maxLen;omega)).sub fun b hb=>Or.inr (Or.inr ⟨by omega,hb.2⟩)
     ·simp only[oldF,if_neg hn];exact hcd
     ·simp only[oldF,if_neg hn];omega
   ·rw[aKT _ _ _ _ e]
    simp only[if_neg e]
    exact((hr i hi').mono fun b hb=>hbW.block b (hP b hb)).sub fun b hb=>Or.inl hb
 refine⟨some ⟨gB,0,none⟩,capB,by rw[hln],⟨some ⟨gB,0,none⟩,capB,?_,?_,by rw[hln];exact hcf,?_,?_⟩,hbW⟩
 ·rw[hp]
 ·rw[hp]
  exact hR
 ·rw[hp];exact ht1
 ·rw[hp];exact ht2
end Go.Proofs.YtcebpkeiaiiphaaGreatDoor
namespace Go.Proofs.YtcebpkeiaiiphaaGreatDoor
open Go.RowKit
def aB5(fs:List F):Nat→List UInt8
 |0=>[]
 |n+1=>aB5 fs n++(aGV (fth fs n)).data.toList
def keyL(t:T):List UInt8:=if t.key.toList.isEmpty=true then[] else[32,107,101,121,32]++t.key.data.toList
def aBD(t:T):List UInt8:=[116,121,112,101,32]++t.name.data.toList++keyL t++[10]
def aAX(ts:List T):Nat→List UInt8
 |0=>[]
 |n+1=>aAX ts n++(aBD (tth ts n)++aB5 (tth ts n).fields (tth ts n).fields.length)
def aAK(p:Pt):List UInt8:=[112,97,114,116,32]++p.name.data.toList++[10]
def aCR(p:Pt):List UInt8:=aAK p++aAX p.types p.types.length
theorem aEH(fs:List F)(k:Nat):∀n,k≤n→(aB5 fs k).length≤(aB5 fs n).length
 |0,h=>by rw[show k=0 by omega];exact Nat.le_refl _
 |n+1,h=>by
  by_cases e:k=n+1
  ·rw[e];exact Nat.le_refl _
  ·have:=aEH fs k n (by omega);rw[aB5,List.length_append];omega
theorem aIP(ts:List T)(k:Nat):∀n,k≤n→(aAX ts k).length≤(aAX ts n).length
 |0,h=>by rw[show k=0 by omega];exact Nat.le_refl _
 |n+1,h=>by
  by_cases e:k=n+1
  ·rw[e];exact Nat.le_refl _
  ·have:=aIP ts k n (by omega);rw[aAX,List.length_append];omega
theorem Bld.fresh(w:World)(N:Nat)(hN:w.heap.size=N):Bld N N [] (w.alloc (.cells #[.pointer none,.slice none 0 0] 166)):=by
 subst hN
 exact Or.inl ⟨Nat.le_refl _,.slice none 0 0,heap_alloc_new w _,⟨rfl,Or.inl ⟨rfl,rfl⟩⟩,by simp[Value.ownBlock]⟩
theorem aQL(g:Nat→Nat)(k:Nat):∀n,k<n→g k≤((List.range n).map g).sum
 |0,h=>by omega
 |n+1,h=>by
  rw[List.range_succ,List.map_append,List.sum_append]
  by_cases e:k=n
  ·subst e;simp
  ·have:=aQL g k n (by omega);omega
theorem aP0(p:Pt)(k:Nat)(h:k<p.types.length)(hz:szP p≤1048576):szT (tth p.types k)≤1048576:=by
 have h1:=aQL (fun i=>szT (tth p.types i)) k _ h
 have h2:p.name.size+(p.types.length+aB8 p.types p.types.length)≤1048576:=hz
 have h3:aB8 p.types p.types.length=((List.range p.types.length).map fun i=>szT (tth p.types i)).sum:=rfl
 omega
theorem aOM(t:T)(k:Nat)(h:k<t.fields.length)(hz:szT t≤1048576):szF (fth t.fields k)≤1048576:=by
 have h1:=aQL (fun i=>szF (fth t.fields i)) k _ h
 have h2:t.name.size+t.key.size+(t.fields.length+aBC t.fields t.fields.length)≤1048576:=hz
 have h3:aBC t.fields t.fields.length=((List.range t.fields.length).map fun i=>szF (fth t.fields i)).sum:=rfl
 omega
theorem tl(a:ByteArray):a.data.toList.length=a.size:=Array.length_toList
set_option maxHeartbeats 3200000 in
theorem aM1(p:Pt)(w:World)(B:Nat)(v:Value)(hP:PRep w (·<B) p v)(hB:B≤w.heap.size)(hz:szP p≤1048576)(hl:(aCR p).length≤70368744177664):
  Calls Tryz.prog 97 #[v] w fun e w'=>e=.returned (.string ⟨(aCR p).toArray⟩)∧Below w.heap.size w w':=by
 obtain⟨pname,types⟩:=p
 obtain⟨ta,tc,rfl,hK,hnc,hpn⟩:=hP
 simp only at hK hnc hpn
 have h56:=hK.1
 have hl2:(aAK ⟨pname,types⟩).length+(aAX types types.length).length≤70368744177664:=by rw[←List.length_append];exact hl
 have hpz:pname.size≤1048576:=by have:pname.size+szTs types≤1048576:=hz;omega
 have HP0:Hid (aCR ⟨pname,types⟩=aAK ⟨pname,types⟩++aAX types types.length):=rfl
 have HH:Hid ((⟨#[112,97,114,116,32]⟩++pname++⟨#[10]⟩:ByteArray).data.toList=aAK ⟨pname,types⟩):=by show _=_;rw[aAD,aAD];rfl
 have hfr:=Bld.fresh (w.alloc (.cells #[.string pname,.slice ta types.length tc] 46)) (w.heap.size+1) (by simp)
 have b1:5+pname.size≤9223372036854775807:=by omega
 have b2:5+pname.size+1≤9223372036854775807:=by omega
 have PC:∀W,Below (w.heap.size+1) (w.alloc (.cells #[.string pname,.slice ta types.length tc] 46)) W→W.cell? ⟨w.heap.size,1,none⟩=some (.slice ta types.length tc):=fun W h=>(h.cell (p:=⟨w.heap.size,1,none⟩) (by show w.heap.size<_;omega)).trans (aBR _ _ 1 (by simp))
 go_enter Tryz.func97,Tryz.ntmps97
 go_wp2_with (
  go_at_call 92
  refine(aBP (w.heap.size+1) (w.heap.size+1) [] _ _ hfr ?_ (by simp)).mono ?_
  ·simp only[List.length_nil,ByteArray.size_append,aCA,List.size_toArray,List.length_cons]
   omega
  rintro e w1 ⟨rfl,hbd1,hbe1,hke1⟩
  have hbl1:Below (w.heap.size+1) (w.alloc (.cells #[.string pname,.slice ta types.length tc] 46)) w1:=((Below.refl _ _).alloc (by simp) _).trans hbe1
  have pc1:=PC w1 hbl1)
 rw[List.nil_append,HH.out] at hbd1
 go_loopw [16] (fun i wr=>∃k:Nat,k≤types.length∧i=.int .i64 k∧Bld (w.heap.size+1) (w.heap.size+1) (aAK ⟨pname,types⟩++aAX types k) wr∧Below (w.heap.size+1) (w.alloc (.cells #[.string pname,.slice ta types.length tc] 46)) wr∧w.heap.size+1<wr.heap.size) (fun i _=>types.length- (intOf i).toNat)
 case atStart=>exact⟨0,Nat.zero_le _,rfl,by rw[aAX,List.append_nil];exact hbd1,hbl1,by have:=hbe1.size;simp at this;omega⟩
 case round=>
  clear hbd1 hbe1 hke1 hbl1 pc1
  obtain⟨k,hk,rfl,hbd,hbl,hsz⟩:=hrel
  obtain⟨w0,rfl⟩:∃x,x=wr:=⟨wr,rfl⟩
  have hbw:Below w.heap.size w w0:=(aA2 w _).trans (hbl.mono (by omega))
  by_cases hlt:k<types.length
  ·obtain⟨b,off,fa,fc,rfl,htr,hcs⟩:=hK.at hB k hlt
   obtain⟨c0,c1,c2⟩:=hcs w0 hbw
   obtain⟨fa',fc',e0,e1,e2,hfs,hffc,hs1,hs2⟩:=htr.parts
   simp only[Value.slice.injEq] at e2
   obtain⟨rfl,-,rfl⟩:=e2
   have hf56:=hfs.1
   have hszT:=aP0 ⟨pname,types⟩ k hlt hz
   simp only at hszT
   have hszT2:(tth types k).name.size+(tth types k).key.size+szFs (tth types k).fields≤1048576:=hszT
   have hlk:=aIP types (k+1) _ hlt
   rw[aAX,List.length_append,List.length_append] at hlk
   have HTY:Hid (aBD (tth types k)=[116,121,112,101,32]++(tth types k).name.data.toList++keyL (tth types k)++[10]):=rfl
   have hthl:(aBD (tth types k)).length=5+(tth types k).name.size+(keyL (tth types k)).length+1:=by rw[HTY.out];simp only[List.length_append,tl,List.length_cons,List.length_nil]
   have b3:5+(tth types k).name.size≤9223372036854775807:=by omega
   have b4:5+(tth types k).key.size≤9223372036854775807:=by omega
   clear hcs htr e0 e1
   have hbd0:=hbd.kept (aA2 w0 (.cells #[.string (tth types k).name,.string (tth types k).key,.slice fa (tth types k).fields.length fc] 96))
   have hW1:=aBP (w.heap.size+1) (w.heap.size+1) _ (⟨#[116,121,112,101,32]⟩++(tth types k).name) _ hbd0 (by simp only[List.length_append,ByteArray.size_append,aCA,List.size_toArray,List.length_cons,List.length_nil];omega) (by simp;omega)
   have hk0:=heap_alloc_new w0 (.cells #[.string (tth types k).name,.string (tth types k).key,.slice fa (tth types k).fields.length fc] 96)
   have TC:∀W:World,W.heap[w0.heap.size]?=some (.cells #[.string (tth types k).name,.string (tth types k).key,.slice fa (tth types k).fields.length fc] 96 (0,0))→W.cell? ⟨w0.heap.size,1,none⟩=some (.string (tth types k).key)∧W.cell? ⟨w0.heap.size,2,none⟩=some (.slice fa (tth types k).fields.length fc):=fun W h=>⟨(aA1 h 1 (by simp)).1,(aA1 h 2 (by simp)).1⟩
   cases hke:(tth types k).key.toList.isEmpty
   ·have hkl:keyL (tth types k)=[32,107,101,121,32]++(tth types k).key.data.toList:=by rw[keyL,if_neg (by rw[hke];simp)]
    have hkll:(keyL (tth types k)).length=5+(tth types k).key.size:=by rw[hkl];simp only[List.length_append,tl,List.length_cons,List.length_nil]
    have hW2:=fun W1 (h:Bld (w.heap.size+1) (w.heap.size+1) (aAK ⟨pname,types⟩++aAX types k++(⟨#[116,121,112,101,32]⟩++(tth types k).name:ByteArray).data.toList) W1) hs=>aBP (w.heap.size+1) (w.heap.size+1) _ (⟨#[32,107,101,121,32]⟩++(tth types k).key) W1 h (by simp only[List.length_append,ByteArray.size_append,tl,aCA,List.size_toArray,List.length_cons,List.length_nil];omega) hs
    have hW3:=fun W1 (h:Bld (w.heap.size+1) (w.heap.size+1) (aAK ⟨pname,types⟩++aAX types k++(⟨#[116,121,112,101,32]⟩++(tth types k).name:ByteArray).data.toList++(⟨#[32,107,101,121,32]⟩++(tth types k).key:ByteArray).data.toList) W1) hs=>aEQ (w.heap.size+1) (w.heap.size+1) _ 10 W1 h (by simp only[List.length_append,ByteArray.size_append,tl,aCA,List.size_toArray,List.length_cons,List.length_nil];omega) hs
    go_wp2_with (first
     |(
      go_at_call_of 92 ((tth types k).name)
      refine hW1.mono ?_
      rintro e w1 ⟨rfl,hbd1,hbe1,hke1⟩
      have hk1:=hke1.block hk0 (by omega) (by decide)
      obtain⟨t11,t12⟩:=TC w1 hk1
      have z1:=hbe1.size
      simp at z1)
     |(
      go_at_call_of 92 ((tth types k).key)
      refine(hW2 w1 hbd1 (by omega)).mono ?_
      rintro e w2 ⟨rfl,hbd2,hbe2,hke2⟩
      have hk2:=hke2.block hk1 (by omega) (by decide)
      obtain⟨t21,t22⟩:=TC w2 hk2
      have z2:=hbe2.size)
     |(
      go_at_call 137
      have hwb:=hW3 w2 hbd2 (by omega)
      rw[show(((10:UInt8).toNat:Nat):Int)=10 from rfl] at hwb
      refine hwb.mono ?_
      rintro e w3 ⟨rfl,hbdX,hbe3,hke3⟩
      have hkX:=hke3.block hk2 (by omega) (by decide)
      obtain⟨t31,t32⟩:=TC w3 hkX))
    ·have hblX:Below (w.heap.size+1) (w.alloc (.cells #[.string pname,.slice (some ⟨b,off,none⟩) types.length tc] 46)) w3:=(((hbl.alloc (by omega) _).trans hbe1).trans hbe2).trans hbe3
     have HTH:Hid (aAK ⟨pname,types⟩++aAX types k++aBD (tth types k)=aAK ⟨pname,types⟩++aAX types k++(⟨#[116,121,112,101,32]⟩++(tth types k).name:ByteArray).data.toList++(⟨#[32,107,101,121,32]⟩++(tth types k).key:ByteArray).data.toList++[10]):=by
      show _=_
      rw[HTY.out,hkl,aAD,aAD];simp
     clear hbd1 hbe1 hke1 hk1 hbd2 hbe2 hke2 hk2 hbe3 hke3 hbd0 hW1 hk0
     go_loopw [35] (fun i w2=>∃j:Nat,j≤(tth types k).fields.length∧i=.int .i64 j∧Bld (w.heap.size+1) (w.heap.size+1) (aAK ⟨pname,types⟩++aAX types k++aBD (tth types k)++aB5 (tth types k).fields j) w2∧Below (w.heap.size+1) (w.alloc (.cells #[.string pname,.slice (some ⟨b,off,none⟩) types.length tc] 46)) w2∧w2.heap[w0.heap.size]?=some (.cells #[.string (tth types k).name,.string (tth types k).key,.slice fa (tth types k).fields.length fc] 96 (0,0))) (fun i _=>(tth types k).fields.length- (intOf i).toNat)
     case atStart=>exact⟨0,Nat.zero_le _,rfl,by rw[aB5,List.append_nil,HTH.out];exact hbdX,hblX,hkX⟩
     case round=>
      clear hbdX hblX hkX
      obtain⟨w5,rfl⟩:∃x,x=wr:=⟨wr,rfl⟩
      obtain⟨j,hj,rfl,hbd5,hbl5,hk5⟩:=hrel
      have hw5:Below w.heap.size w w5:=(aA2 w _).trans (hbl5.mono (by omega))
      have z5:w0.heap.size<w5.heap.size:=(Array.getElem?_eq_some_iff.1 hk5).1
      by_cases hjl:j<(tth types k).fields.length
      ·obtain⟨b2,off2,na,nc,rfl,hfr2,hcs2⟩:=hfs.at hB j hjl
       obtain⟨c0,c1,c2,c3,c4,c5,c6,c7⟩:=hcs2 w5 hw5
       have hsf:=aOM (tth types k) j hjl hszT
       have hsf2:(fth (tth types k).fields j).name.size+(fth (tth types k).fields j).of.size+szNs (fth (tth types k).fields j).needs≤1048576:=hsf
       obtain⟨-,-,-,-,-,-,-,-,hSt,hncc,-,-⟩:=hfr2.vals
       have hln:=aEH (tth types k).fields j _ (Nat.le_of_lt hjl)
       have hwf:=fun w6 (hb6:Below (w5.heap.size+1) (w5.alloc (.cells #[.string (fth (tth types k).fields j).name,.string (fth (tth types k).fields j).of,.bool (fth (tth types k).fields j).list,.bool (fth (tth types k).fields j).must,.bool (fth (tth types k).fields j).far,.bool (fth (tth types k).fields j).hidden,.bool (fth (tth types k).fields j).shared,.slice na (fth (tth types k).fields j).needs.length nc] 80)) w6)=>aG2 (fth (tth types k).fields j).name (fth (tth types k).fields j).of (fth (tth types k).fields j).list (fth (tth types k).fields j).must (fth (tth types k).fields j).far (fth (tth types k).fields j).hidden (fth (tth types k).fields j).shared (fth (tth types k).fields j).needs na nc w6 (w.heap.size+1) (w.heap.size+1) _ (hbd5.kept ((aA2 w5 _).trans (hb6.mono (by omega)))) (by have:=hb6.size;simp at this;omega) (by have:=hb6.size;simp at this;omega) (by omega) (by omega) (by simp only[List.length_append] at hln ⊢;omega) ((hSt.under ((hw5.trans (((aA2 w5 _).trans (hb6.mono (by omega))).mono (by omega))).mono hB)).sub fun q hq=>by omega) hncc (by omega)
       clear hcs2
       go_wp2_with (first
        |(
         go_at_call 139
         refine(aBN _ _ _ _ _ _ _ _ _ _ _).mono ?_
         rintro e w6 ⟨rfl,hb6⟩
         have hb6':=hb6.mono (show w5.heap.size+1≤_ by simp)
         have z6:=hb6.size
         simp at z6)
        |(
         go_at_call 138
         refine(hwf w6 hb6').mono ?_
         rintro e w7 ⟨rfl,hbd7,hbe7,hke7⟩))
       have hk6:w6.heap[w0.heap.size]?=some (.cells #[.string (tth types k).name,.string (tth types k).key,.slice (some ⟨b2,off2,none⟩) (tth types k).fields.length fc] 96 (0,0)):=(hb6.block _ (by simp;omega)).trans (((aA2 w5 _).block _ z5).trans hk5)
       go_roundw
       case rel=>exact⟨j+1,by omega,by go_num,by rw[aB5,←List.append_assoc];exact hbd7,(hbl5.trans (((aA2 w5 _).trans (hb6.mono (by simp))).mono (by omega))).trans hbe7,hke7.block hk6 (by omega) (by decide)⟩
       case measure=>simp[intOf];omega
      ·go_wp2_with fail
       go_roundw
       case rel=>
        have ej:j=(tth types k).fields.length:=by omega
        refine⟨k+1,by omega,by go_num,?_,hbl5,by omega⟩
        rw[aAX,←List.append_assoc,←List.append_assoc,←ej]
        exact hbd5
       case measure=>simp[intOf];omega
   ·have hkl:keyL (tth types k)=[]:=by rw[keyL,if_pos hke]
    have hkll:(keyL (tth types k)).length=0:=by rw[hkl];rfl
    have hW3:=fun W1 (h:Bld (w.heap.size+1) (w.heap.size+1) (aAK ⟨pname,types⟩++aAX types k++(⟨#[116,121,112,101,32]⟩++(tth types k).name:ByteArray).data.toList) W1) hs=>aEQ (w.heap.size+1) (w.heap.size+1) _ 10 W1 h (by simp only[List.length_append,ByteArray.size_append,tl,aCA,List.size_toArray,List.length_cons,List.length_nil];omega) hs
    go_wp2_with (first
     |(
      go_at_call_of 92 ((tth types k).name)
      refine hW1.mono ?_
      rintro e w1 ⟨rfl,hbd1,hbe1,hke1⟩
      have hk1:=hke1.block hk0 (by omega) (by decide)
      obtain⟨t11,t12⟩:=TC w1 hk1
      have z1:=hbe1.size
      simp at z1)
     |(
      go_at_call 137
      have hwb:=hW3 w1 hbd1 (by omega)
      rw[show(((10:UInt8).toNat:Nat):Int)=10 from rfl] at hwb
      refine hwb.mono ?_
      rintro e w3 ⟨rfl,hbdX,hbe3,hke3⟩
      have hkX:=hke3.block hk1 (by omega) (by decide)
      obtain⟨t31,t32⟩:=TC w3 hkX))
    ·have hblX:Below (w.heap.size+1) (w.alloc (.cells #[.string pname,.slice (some ⟨b,off,none⟩) types.length tc] 46)) w3:=((hbl.alloc (by omega) _).trans hbe1).trans hbe3
     have HTH:Hid (aAK ⟨pname,types⟩++aAX types k++aBD (tth types k)=aAK ⟨pname,types⟩++aAX types k++(⟨#[116,121,112,101,32]⟩++(tth types k).name:ByteArray).data.toList++[10]):=by
      show _=_
      rw[HTY.out,hkl,aAD];simp
     clear hbd1 hbe1 hke1 hk1 hbe3 hke3 hbd0 hW1 hk0
     go_loopw [35] (fun i w2=>∃j:Nat,j≤(tth types k).fields.length∧i=.int .i64 j∧Bld (w.heap.size+1) (w.heap.size+1) (aAK ⟨pname,types⟩++aAX types k++aBD (tth types k)++aB5 (tth types k).fields j) w2∧Below (w.heap.size+1) (w.alloc (.cells #[.string pname,.slice (some ⟨b,off,none⟩) types.length tc] 46)) w2∧w2.heap[w0.heap.size]?=some (.cells #[.string (tth types k).name,.string (tth types k).key,.slice fa (tth types k).fields.length fc] 96 (0,0))) (fun i _=>(tth types k).fields.length- (intOf i).toNat)
     case atStart=>exact⟨0,Nat.zero_le _,rfl,by rw[aB5,List.append_nil,HTH.out];exact hbdX,hblX,hkX⟩
     case round=>
      clear hbdX hblX hkX
      obtain⟨w5,rfl⟩:∃x,x=wr:=⟨wr,rfl⟩
      obtain⟨j,hj,rfl,hbd5,hbl5,hk5⟩:=hrel
      have hw5:Below w.heap.size w w5:=(aA2 w _).trans (hbl5.mono (by omega))
      have z5:w0.heap.size<w5.heap.size:=(Array.getElem?_eq_some_iff.1 hk5).1
      by_cases hjl:j<(tth types k).fields.length
      ·obtain⟨b2,off2,na,nc,rfl,hfr2,hcs2⟩:=hfs.at hB j hjl
       obtain⟨c0,c1,c2,c3,c4,c5,c6,c7⟩:=hcs2 w5 hw5
       have hsf:=aOM (tth types k) j hjl hszT
       have hsf2:(fth (tth types k).fields j).name.size+(fth (tth types k).fields j).of.size+szNs (fth (tth types k).fields j).needs≤1048576:=hsf
       obtain⟨-,-,-,-,-,-,-,-,hSt,hncc,-,-⟩:=hfr2.vals
       have hln:=aEH (tth types k).fields j _ (Nat.le_of_lt hjl)
       have hwf:=fun w6 (hb6:Below (w5.heap.size+1) (w5.alloc (.cells #[.string (fth (tth types k).fields j).name,.string (fth (tth types k).fields j).of,.bool (fth (tth types k).fields j).list,.bool (fth (tth types k).fields j).must,.bool (fth (tth types k).fields j).far,.bool (fth (tth types k).fields j).hidden,.bool (fth (tth types k).fields j).shared,.slice na (fth (tth types k).fields j).needs.length nc] 80)) w6)=>aG2 (fth (tth types k).fields j).name (fth (tth types k).fields j).of (fth (tth types k).fields j).list (fth (tth types k).fields j).must (fth (tth types k).fields j).far (fth (tth types k).fields j).hidden (fth (tth types k).fields j).shared (fth (tth types k).fields j).needs na nc w6 (w.heap.size+1) (w.heap.size+1) _ (hbd5.kept ((aA2 w5 _).trans (hb6.mono (by omega)))) (by have:=hb6.size;simp at this;omega) (by have:=hb6.size;simp at this;omega) (by omega) (by omega) (by simp only[List.length_append] at hln ⊢;omega) ((hSt.under ((hw5.trans (((aA2 w5 _).trans (hb6.mono (by omega))).mono (by omega))).mono hB)).sub fun q hq=>by omega) hncc (by omega)
       clear hcs2
       go_wp2_with (first
        |(
         go_at_call 139
         refine(aBN _ _ _ _ _ _ _ _ _ _ _).mono ?_
         rintro e w6 ⟨rfl,hb6⟩
         have hb6':=hb6.mono (show w5.heap.size+1≤_ by simp)
         have z6:=hb6.size
         simp at z6)
        |(
         go_at_call 138
         refine(hwf w6 hb6').mono ?_
         rintro e w7 ⟨rfl,hbd7,hbe7,hke7⟩))
       have hk6:w6.heap[w0.heap.size]?=some (.cells #[.string (tth types k).name,.string (tth types k).key,.slice (some ⟨b2,off2,none⟩) (tth types k).fields.length fc] 96 (0,0)):=(hb6.block _ (by simp;omega)).trans (((aA2 w5 _).block _ z5).trans hk5)
       go_roundw
       case rel=>exact⟨j+1,by omega,by go_num,by rw[aB5,←List.append_assoc];exact hbd7,(hbl5.trans (((aA2 w5 _).trans (hb6.mono (by simp))).mono (by omega))).trans hbe7,hke7.block hk6 (by omega) (by decide)⟩
       case measure=>simp[intOf];omega
      ·go_wp2_with fail
       go_roundw
       case rel=>
        have ej:j=(tth types k).fields.length:=by omega
        refine⟨k+1,by omega,by go_num,?_,hbl5,by omega⟩
        rw[aAX,←List.append_assoc,←List.append_assoc,←ej]
        exact hbd5
       case measure=>simp[intOf];omega
  ·have ek:k=types.length:=by omega
   go_wp2_with (
    go_at_call 93
    refine(aNX (w.heap.size+1) (w.heap.size+1) _ w0 hbd (by omega)).mono ?_
    rintro e w9 ⟨rfl,hbe9⟩)
   exact⟨rfl,.string ⟨(aAK ⟨pname,types⟩++aAX types types.length).toArray⟩,by simp[results,Tryz.results97,go_sem],by rw[HP0.out],hbw.trans (hbe9.mono (by omega))⟩
end Go.Proofs.YtcebpkeiaiiphaaGreatDoor
