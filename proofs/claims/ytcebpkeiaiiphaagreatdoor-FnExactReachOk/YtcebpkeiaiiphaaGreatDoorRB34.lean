import Derived.Test.YtcebpkeiaiiphaaGreatDoorRB33
import Derived.Test.YtcebpkeiaiiphaaGreatDoorRB32
import Derived.Laws.EntriesVeiled
set_option linter.unusedSimpArgs false
set_option linter.unusedVariables false
namespace Go.Proofs.YtcebpkeiaiiphaaGreatDoor
open Go.RowKit
theorem aO8(q:Nat→Bool):∀n,aA6 q n=true→∀i,i<n→q i=true
 |0,_,i,hi=>absurd hi (Nat.not_lt_zero _)
 |n+1,h,i,hi=>by
  rw[aA6,Bool.and_eq_true] at h
  by_cases e:i=n
  ·subst e;exact h.2
  ·exact aO8 q n h.1 i (by omega)
theorem aKB{ps:List Pt}{okp:Pt→Bool}(h:aBU ps okp=true):0<ps.length∧ps.length≤4∧∀i,i<ps.length→okp (pth ps i)=true:=by
 unfold aBU at h
 simp only[Bool.and_eq_true,decide_eq_true_eq] at h
 refine⟨h.1.1.1,h.1.1.2,fun i hi=>?_⟩
 have:=aO8 _ _ h.1.2 i hi
 unfold aF1 at this
 rw[Bool.and_eq_true] at this
 exact this.1
theorem aH3(fs:List F)(k:Nat):∀n,k<n→szF (fth fs k)≤aBC fs n
 |0,h=>absurd h (Nat.not_lt_zero _)
 |n+1,h=>by
  rw[aC1]
  by_cases e:k=n
  ·subst e;omega
  ·have:=aH3 fs k n (by omega)
   omega
theorem aSC(ps:List Pt)(hz:∀i,i<ps.length→szP (pth ps i)≤1048576)(i k n:Nat):(fth (tth (pth ps i).types k).fields n).needs.length≤1000000000:=by
 by_cases hi:i<ps.length
 ·have h0:=hz i hi
  have h1:szP (pth ps i)=(pth ps i).name.size+((pth ps i).types.length+aB8 (pth ps i).types (pth ps i).types.length):=rfl
  generalize pth ps i=p at*
  by_cases hk:k<p.types.length
  ·have h2:=aF7 p.types k p.types.length hk
   have h3:szT (tth p.types k)=(tth p.types k).name.size+(tth p.types k).key.size+((tth p.types k).fields.length+aBC (tth p.types k).fields (tth p.types k).fields.length):=rfl
   generalize tth p.types k=t at*
   by_cases hn:n<t.fields.length
   ·have h4:=aH3 t.fields n t.fields.length hn
    have h5:szF (fth t.fields n)=(fth t.fields n).name.size+(fth t.fields n).of.size+((fth t.fields n).needs.length+aEB (fth t.fields n).needs (fth t.fields n).needs.length):=rfl
    omega
   ·have:fth t.fields n=F.zero:=by simp[fth,List.getD_eq_getElem?_getD,List.getElem?_eq_none (Nat.le_of_not_lt hn)]
    rw[this]
    exact Nat.zero_le _
  ·have e1:tth p.types k=T.zero:=by simp[tth,List.getD_eq_getElem?_getD,List.getElem?_eq_none (Nat.le_of_not_lt hk)]
   rw[e1]
   have:fth T.zero.fields n=F.zero:=by simp[fth,T.zero]
   rw[this]
   exact Nat.zero_le _
 ·have e0:pth ps i=Pt.zero:=by simp[pth,List.getD_eq_getElem?_getD,List.getElem?_eq_none (Nat.le_of_not_lt hi)]
  rw[e0]
  have e1:tth Pt.zero.types k=T.zero:=by simp[tth,Pt.zero]
  rw[e1]
  have:fth T.zero.fields n=F.zero:=by simp[fth,T.zero]
  rw[this]
  exact Nat.zero_le _
def wth(ws:List (List ByteArray))(i:Nat):List ByteArray:=ws.getD i []
def qB(nm:ByteArray):Bool:=nm.toList==[113,117,101,114,121]
def aCT(p:Pt)(nm:ByteArray):Bool:=!(aA7 p nm).key.toList.isEmpty
def aCC(p:Pt)(nm n:ByteArray):Bool:=aG7 p nm n&&decide ((sayF p nm n).needs.length=0)
def aDF(ps:List Pt)(nm n:ByteArray)(i:Nat):Bool:=aG7 (pth ps i) nm n&&(qB nm||aCT (pth ps i) nm)
def aC3(ps:List Pt)(nm n:ByteArray):Int:=aA9 (aDF ps nm n) ps.length
def aCS(ps:List Pt)(nm n:ByteArray):F:=if 0≤aC3 ps nm n then sayF (pth ps (aC3 ps nm n).toNat) nm n else F.zero
def aFY(ps:List Pt)(s:Nat)(nm n:ByteArray):Bool:=aCC (pth ps s) nm n||decide (0≤aC3 ps nm n)
def aDU(ps:List Pt)(s:Nat)(nm:ByteArray)(ns:List ByteArray)(k:Nat):Bool:=aA6 (fun i=>aFY ps s nm (nth ns i)) k
def aJD(ps:List Pt)(s:Nat)(nm:ByteArray)(ns:List ByteArray):Bool:=aCT (pth ps s) nm&&aDU ps s nm ns ns.length
def aCQ(ps:List Pt)(s:Nat)(nm n:ByteArray):Bool:=(!qB nm&&aCC (pth ps s) nm n)||(decide (0≤aC3 ps nm n)&&(qB nm||aJD ps s nm (aCS ps nm n).needs))
def aEL(ps:List Pt)(s:Nat)(nm n:ByteArray):Nat:=if(!qB nm&&aCC (pth ps s) nm n)=true then s else(aC3 ps nm n).toNat
def aCH(ss:List Sta)(x:Sta):Int:=aA9 (fun i=>decide ((sta ss i).part=x.part)&&((sta ss i).type.toList==x.type.toList)) ss.length
structure Wk where
 st:List Sta
 wy:List (List ByteArray)
 bad:List ByteArray
def Wk.fld(ps:List Pt)(s:Sta)(way:List ByteArray)(W:Wk)(f:F):Wk:=
 if f.hidden=true then W
 else if aCQ ps s.part s.type f.name=true then
  (if aAV f.of=true then W
   else if 0≤aCH W.st ⟨aEL ps s.part s.type f.name,f.of⟩ then W
   else⟨W.st++[⟨aEL ps s.part s.type f.name,f.of⟩],W.wy++[way++[f.name]],W.bad⟩)
 else⟨W.st,W.wy,if W.bad.length=0 then way++[f.name] else W.bad⟩
def Wk.flds(ps:List Pt)(s:Sta)(way:List ByteArray)(fs:List F)(W:Wk):Nat→Wk
 |0=>W
 |k+1=>(W.flds ps s way fs k).fld ps s way (fth fs k)
def Wk.turn(ps:List Pt)(all:Pt)(i:Nat)(W:Wk):Wk:=
 W.flds ps (sta W.st i) (wth W.wy i) (aA7 all (sta W.st i).type).fields (aA7 all (sta W.st i).type).fields.length
def wkTo(ps:List Pt)(all:Pt):Nat→Wk
 |0=>⟨[⟨0,qry⟩],[[]],[]⟩
 |n+1=>(wkTo ps all n).turn ps all n
def wkN(ps:List Pt)(all:Pt):Nat:=(aA9 (fun n=>decide ((wkTo ps all n).st.length≤n)) 30).toNat
def wkE(ps:List Pt)(all:Pt):Wk:=wkTo ps all (wkN ps all)
theorem aHD{q:Nat→Bool}{n:Nat}(h:0≤aA9 q n):(aA9 q n).toNat<n∧q (aA9 q n).toNat=true∧∀i,i<(aA9 q n).toNat→q i=false:=by
 rcases aA8 q n with⟨e,-⟩| ⟨k,e,h1,h2,h3⟩
 ·omega
 ·rw[e];exact⟨h1,h2,h3⟩
theorem aOD{ps:List Pt}{s:Nat}{nm n:ByteArray}(hs:s<ps.length)(h:aCQ ps s nm n=true):aEL ps s nm n<ps.length:=by
 unfold aEL
 cases hl:(!qB nm&&aCC (pth ps s) nm n)
 ·rw[if_neg (by simp)]
  unfold aCQ at h
  rw[hl,Bool.false_or,Bool.and_eq_true,decide_eq_true_eq] at h
  exact(aHD h.1).1
 ·rw[if_pos rfl];exact hs
theorem aTU{a b:ByteArray}(h:a.toList=b.toList):a=b:=by
 have h2:a.data.toList=b.data.toList:=by simpa[ByteArray.toList_eq] using h
 cases a;cases b
 simp at h2
 congr
theorem aRJ{a b:Sta}(h1:a.part=b.part)(h2:a.type=b.type):a=b:=by cases a;cases b;simp_all
theorem aKP{ss:List Sta}{x:Sta}:0≤aCH ss x↔x∈ ss:=by
 constructor
 ·intro h
  obtain⟨h1,h2,-⟩:=aHD h
  obtain⟨i,e⟩:∃i,(aCH ss x).toNat=i:=⟨_,rfl⟩
  have h1:(aCH ss x).toNat<ss.length:=h1
  have h2:(decide ((sta ss (aCH ss x).toNat).part=x.part)&&((sta ss (aCH ss x).toNat).type.toList==x.type.toList))=true:=h2
  rw[e] at h1 h2
  simp only[Bool.and_eq_true,decide_eq_true_eq,beq_iff_eq] at h2
  have e2:sta ss i=ss[i]:=by simp[sta,List.getD_eq_getElem?_getD,h1]
  rw[e2] at h2
  have:x=ss[i]:=aRJ h2.1.symm (aTU h2.2.symm)
  rw[this]
  exact List.getElem_mem h1
 ·intro h
  obtain⟨i,hi,rfl⟩:=List.getElem_of_mem h
  exact aFC hi (by simp[sta,List.getD_eq_getElem?_getD,hi])
structure WkOk(ps:List Pt)(all:Pt)(W:Wk):Prop where
 len:W.wy.length=W.st.length
 nd:W.st.Nodup
 part:∀s∈ W.st,s.part<ps.length
 type:∀s∈ W.st,0≤aAS all s.type
 wlen:∀i,i<W.st.length→(wth W.wy i).length≤i
 wsz:∀i,i<W.st.length→∀t∈ wth W.wy i,t.size≤1048576
 blen:W.bad.length≤W.st.length
 bsz:∀t∈ W.bad,t.size≤1048576
theorem pigR:∀(n:Nat) (l:List Nat),l.Nodup→(∀x∈ l,x<n)→l.length≤n
 |0,l,_,h=>by
  cases l with
  |nil=>exact Nat.le_refl _
  |cons a r=>exact absurd (h a (by simp)) (by omega)
 |n+1,l,hd,h=>by
  have h1:=pigR n (l.erase n) (hd.erase n) fun x hx=>by
   have h2:=h x (List.mem_of_mem_erase hx)
   have h3:x≠n:=fun e=>by subst e;exact(List.Nodup.not_mem_erase hd) hx
   omega
  rw[List.length_erase] at h1
  split at h1<;>omega
theorem WkOk.few{ps:List Pt}{all:Pt}{W:Wk}(h:WkOk ps all W)(hp:ps.length≤4)(ha:all.types.length≤5):W.st.length≤20:=by
 have hc:∀s∈ W.st,(aAS all s.type).toNat<5∧(tth all.types (aAS all s.type).toNat).name=s.type:=fun s hs=>by
  obtain⟨k,e,h1,h2⟩:=aC9 (h.type s hs)
  rw[e];exact⟨by simp only[Int.toNat_natCast];omega,h2⟩
 have h1:=pigR 20 (W.st.map fun s=>s.part*5+(aAS all s.type).toNat) (by
  rw[List.nodup_iff_pairwise_ne,List.pairwise_map]
  refine List.Pairwise.imp_of_mem ?_ h.nd
  intro a b ha hb hne e
  obtain⟨a1,a2⟩:=hc a ha
  obtain⟨b1,b2⟩:=hc b hb
  have e1:(aAS all a.type).toNat=(aAS all b.type).toNat:=by omega
  have e2:a.part=b.part:=by omega
  rw[e1,b2] at a2
  exact hne (aRJ e2 a2.symm)) (fun x hx=>by
   obtain⟨s,hs,rfl⟩:=List.mem_map.1 hx
   have:=h.part s hs
   have:=(hc s hs).1
   omega)
 rw[List.length_map] at h1
 exact h1
theorem aLA(a:List (List ByteArray))(t:List ByteArray):wth (a++[t]) a.length=t:=by simp[wth,List.getD_eq_getElem?_getD]
theorem aFN(a:List (List ByteArray))(t:List ByteArray){i:Nat}(h:i<a.length):wth (a++[t]) i=wth a i:=by simp[wth,List.getD_eq_getElem?_getD,List.getElem?_append_left h]
theorem aUA(a:List Sta)(t:Sta):sta (a++[t]) a.length=t:=by simp[sta,List.getD_eq_getElem?_getD]
theorem aPK(a:List Sta)(t:Sta){i:Nat}(h:i<a.length):sta (a++[t]) i=sta a i:=by simp[sta,List.getD_eq_getElem?_getD,List.getElem?_append_left h]
theorem aG8{a:List Sta}{i:Nat}(h:i<a.length):sta a i∈ a:=by
 have:sta a i=a[i]:=by simp[sta,List.getD_eq_getElem?_getD,h]
 rw[this];exact List.getElem_mem h
structure WkIn(ps:List Pt)(all:Pt)(s:Sta)(way:List ByteArray)(i:Nat):Prop where
 part:s.part<ps.length
 wlen:way.length≤i
 wsz:∀t∈ way,t.size≤1048576
theorem WkOk.fld{ps:List Pt}{all:Pt}{W:Wk}(h:WkOk ps all W){s:Sta}{way:List ByteArray}{i:Nat}(hs:WkIn ps all s way i)(hi:i<W.st.length){f:F}(hk:(decide (0≤aAS all f.of)||aAV f.of)=true)(hz:f.name.size≤1048576):WkOk ps all (W.fld ps s way f):=by
 have hsz:∀t∈ way++[f.name],t.size≤1048576:=fun t ht=>by
  rw[List.mem_append,List.mem_singleton] at ht
  rcases ht with ht| rfl
  ·exact hs.wsz t ht
  ·exact hz
 unfold Wk.fld
 split
 ·exact h
 split
 ·rename_i hn
  split
  ·exact h
  rename_i hsc
  split
  ·exact h
  rename_i hse
  have hnm:(⟨aEL ps s.part s.type f.name,f.of⟩:Sta)∉ W.st:=fun hm=>hse (aKP.2 hm)
  refine⟨by simp[h.len],?_,?_,?_,?_,?_,by have:=h.blen;simp;omega,h.bsz⟩
  ·rw[List.nodup_append]
   exact⟨h.nd,by simp,fun a ha b hb=>by simp at hb;subst hb;exact fun e=>hnm (e▸ha)⟩
  ·intro x hx
   rw[List.mem_append,List.mem_singleton] at hx
   rcases hx with hx| rfl
   ·exact h.part x hx
   ·exact aOD hs.part hn
  ·intro x hx
   rw[List.mem_append,List.mem_singleton] at hx
   rcases hx with hx| rfl
   ·exact h.type x hx
   ·simpa[hsc] using hk
  ·intro j hj
   rw[List.length_append,List.length_singleton] at hj
   by_cases e:j<W.st.length
   ·rw[aFN _ _ (by have:=h.len;omega)];exact h.wlen j e
   ·have e2:j=W.wy.length:=by have:=h.len;omega
    subst e2
    rw[aLA,List.length_append,List.length_singleton]
    have:=hs.wlen;have:=h.len;omega
  ·intro j hj
   rw[List.length_append,List.length_singleton] at hj
   by_cases e:j<W.st.length
   ·rw[aFN _ _ (by have:=h.len;omega)];exact h.wsz j e
   ·have e2:j=W.wy.length:=by have:=h.len;omega
    subst e2
    rw[aLA]
    exact hsz
 ·refine⟨h.len,h.nd,h.part,h.type,h.wlen,h.wsz,?_,?_⟩
  ·show(if W.bad.length=0 then way++[f.name] else W.bad).length≤W.st.length
   split
   ·rw[List.length_append,List.length_singleton];have:=hs.wlen;omega
   ·exact h.blen
  ·show∀t∈ (if W.bad.length=0 then way++[f.name] else W.bad),_
   split
   ·exact hsz
   ·exact h.bsz
theorem Wk.fld_mono(ps:List Pt)(s:Sta)(way:List ByteArray)(W:Wk)(f:F):W.st<+:(W.fld ps s way f).st:=by
 unfold Wk.fld
 split
 ·exact List.prefix_refl _
 split
 ·split
  ·exact List.prefix_refl _
  split
  ·exact List.prefix_refl _
  ·exact List.prefix_append _ _
 ·exact List.prefix_refl _
theorem Wk.flds_mono(ps:List Pt)(s:Sta)(way:List ByteArray)(fs:List F)(W:Wk):∀k,W.st<+:(W.flds ps s way fs k).st
 |0=>List.prefix_refl _
 |k+1=>(Wk.flds_mono ps s way fs W k).trans (Wk.fld_mono ps s way _ _)
theorem aTE{all:Pt}(h:okP all=true){k l:Nat}(hk:k<all.types.length)(hl:l<(tth all.types k).fields.length):(decide (0≤aAS all (fth (tth all.types k).fields l).of)||aAV (fth (tth all.types k).fields l).of)=true:=by
 have h1:=aED h hk
 unfold aAG at h1
 by_cases a:aAQ (tth all.types k)=false
 ·rw[if_pos a] at h1;omega
 rw[if_neg a] at h1
 by_cases b:aCI all.types k (tth all.types k)=true
 ·rw[if_pos b] at h1;omega
 rw[if_neg b] at h1
 by_cases c:aC0 all (tth all.types k).fields (tth all.types k).fields.length=false
 ·rw[if_pos c] at h1;omega
 have c2:aC0 all (tth all.types k).fields (tth all.types k).fields.length=true:=by simpa using c
 have:=(List.all_eq_true.1 c2) l (by simpa using hl)
 exact this
theorem WkOk.flds{ps:List Pt}{all:Pt}(ho:okP all=true){W:Wk}(h:WkOk ps all W){s:Sta}{way:List ByteArray}{i:Nat}(hs:WkIn ps all s way i)(hi:i<W.st.length){t:Nat}(ht:t<all.types.length):∀k,k≤(tth all.types t).fields.length→WkOk ps all (W.flds ps s way (tth all.types t).fields k)
 |0,_=>h
 |k+1,hk=>by
  refine(WkOk.flds ho h hs hi ht k (by omega)).fld hs ?_ (aTE ho ht (by omega)) ?_
  ·have:=(Wk.flds_mono ps s way (tth all.types t).fields W k).length_le
   omega
  ·have h0:=(aMZ all ho).1
   have e1:szP all=all.name.size+(all.types.length+aB8 all.types all.types.length):=rfl
   have h1:=aF7 all.types t all.types.length ht
   have e2:szT (tth all.types t)=(tth all.types t).name.size+(tth all.types t).key.size+((tth all.types t).fields.length+aBC (tth all.types t).fields (tth all.types t).fields.length):=rfl
   have h2:=aH3 (tth all.types t).fields k (tth all.types t).fields.length (by omega)
   have h3:szF (fth (tth all.types t).fields k)=(fth (tth all.types t).fields k).name.size+(fth (tth all.types t).fields k).of.size+((fth (tth all.types t).fields k).needs.length+_):=rfl
   omega
theorem WkOk.in{ps:List Pt}{all:Pt}{W:Wk}(h:WkOk ps all W){i:Nat}(hi:i<W.st.length):WkIn ps all (sta W.st i) (wth W.wy i) i:=⟨h.part _ (aG8 hi),h.wlen i hi,h.wsz i hi⟩
theorem WkOk.turn{ps:List Pt}{all:Pt}(ho:okP all=true){W:Wk}(h:WkOk ps all W){i:Nat}(hi:i<W.st.length):WkOk ps all (W.turn ps all i):=by
 obtain⟨k,e,h1,h2⟩:=aC9 (h.type _ (aG8 hi))
 have ht:=aDW e
 unfold Wk.turn
 rw[ht]
 exact WkOk.flds ho h (h.in hi) hi h1 _ (Nat.le_refl _)
theorem aSZ{p:Pt}(h:okP p=true):aAS p qry=0:=by
 have h1:aB6 p=true:=by simp only[okP,Bool.and_eq_true] at h;exact h.1.1.2
 simp only[aB6,isT,Bool.and_eq_true,decide_eq_true_eq,beq_iff_eq] at h1
 exact aAU (k:=0) (by intro i hi;omega) (by simp only[h1.1.2,beq_iff_eq];simp[qry,ByteArray.toList_eq]) h1.1.1
theorem aO6{ps:List Pt}{all:Pt}(ho:okP all=true)(hp:0<ps.length):∀n,(∀i,i<n→i<(wkTo ps all i).st.length)→WkOk ps all (wkTo ps all n)
 |0,_=>by
  refine⟨rfl,by simp[wkTo],?_,?_,?_,?_,Nat.zero_le _,?_⟩
  ·intro s hs;simp[wkTo] at hs;subst hs;exact hp
  ·intro s hs;simp[wkTo] at hs;subst hs;rw[aSZ ho];omega
  ·intro i hi;simp only[wkTo,List.length_singleton] at hi;have:i=0:=by omega
   subst this;exact Nat.le_refl _
  ·intro i hi;simp only[wkTo,List.length_singleton] at hi;have:i=0:=by omega
   subst this;intro t ht;cases ht
  ·intro t ht;cases ht
 |n+1,h=>(aO6 ho hp n fun i hi=>h i (by omega)).turn ho (h n (by omega))
theorem aQW{ps:List Pt}{all:Pt}(ho:okP all=true)(hp:0<ps.length)(h4:ps.length≤4):wkN ps all<30∧(wkE ps all).st.length≤wkN ps all∧(∀i,i<wkN ps all→i<(wkTo ps all i).st.length):=by
 have h5:=(aE7 ho).2
 have hx:0≤aA9 (fun n=>decide ((wkTo ps all n).st.length≤n)) 30:=by
  rcases aA8 (fun n=>decide ((wkTo ps all n).st.length≤n)) 30 with⟨-,h2⟩| ⟨k,e,-⟩
  ·have h3:∀i,i<30→i<(wkTo ps all i).st.length:=fun i hi=>by have:=h2 i hi;simp at this;omega
   have h6:=(aO6 ho hp 29 fun i hi=>h3 i (by omega)).few h4 h5
   have:=h3 29 (by omega)
   omega
  ·rw[e];omega
 obtain⟨h1,h2,h3⟩:=aHD hx
 have h2':(wkTo ps all (aA9 (fun n=>decide ((wkTo ps all n).st.length≤n)) 30).toNat).st.length≤(aA9 (fun n=>decide ((wkTo ps all n).st.length≤n)) 30).toNat:=by simpa using h2
 exact⟨h1,h2',fun i hi=>by have:=h3 i hi;simp at this;exact this⟩
theorem aVB{ps:List Pt}{all:Pt}(ho:okP all=true)(hp:0<ps.length)(h4:ps.length≤4):WkOk ps all (wkE ps all):=aO6 ho hp _ (aQW ho hp h4).2.2
theorem Wk.fld_bad(ps:List Pt)(s:Sta)(way:List ByteArray)(W:Wk)(f:F)(h:W.bad.length≠0):(W.fld ps s way f).bad=W.bad:=by
 unfold Wk.fld
 split
 ·rfl
 split
 ·split
  ·rfl
  split
  ·rfl
  ·rfl
 ·simp[h]
theorem Wk.flds_bad(ps:List Pt)(s:Sta)(way:List ByteArray)(fs:List F)(W:Wk)(k:Nat)(h:(W.flds ps s way fs k).bad.length≠0):∀d,(W.flds ps s way fs (k+d)).bad=(W.flds ps s way fs k).bad
 |0=>rfl
 |d+1=>by
  have ih:=Wk.flds_bad ps s way fs W k h d
  show((W.flds ps s way fs (k+d)).fld ps s way _).bad=_
  rw[Wk.fld_bad _ _ _ _ _ (by rw[ih];exact h),ih]
theorem aO9(ps:List Pt)(all:Pt)(n:Nat)(h:(wkTo ps all n).bad.length≠0):∀d,(wkTo ps all (n+d)).bad=(wkTo ps all n).bad
 |0=>rfl
 |d+1=>by
  have ih:=aO9 ps all n h d
  have h2:=Wk.flds_bad ps (sta (wkTo ps all (n+d)).st (n+d)) (wth (wkTo ps all (n+d)).wy (n+d)) (aA7 all (sta (wkTo ps all (n+d)).st (n+d)).type).fields (wkTo ps all (n+d)) 0 (by show(wkTo ps all (n+d)).bad.length≠0;rw[ih];exact h) (aA7 all (sta (wkTo ps all (n+d)).st (n+d)).type).fields.length
  rw[Nat.zero_add] at h2
  show(Wk.flds _ _ _ _ _ _).bad=_
  exact h2.trans ih
end Go.Proofs.YtcebpkeiaiiphaaGreatDoor
namespace Go.Proofs.YtcebpkeiaiiphaaGreatDoor
open Go.RowKit Go.Maps Go.MapKept
def OffP(base N m:Nat)(sv:Value)(w:World)(b:Nat):Prop:=base≤b∧b<w.heap.size∧sv.ownBlock≠some b∧b≠N∧b≠m
structure RcB(base N m:Nat)(c0 c1 c2:Value)(st:List Sta)(sv:Value)(w:World):Prop where
 box:w.heap[N]?=some (.cells #[c0,c1,c2,sv,.map (some m)] 66 (0,0))
 srow:w.ownsRow base 72 2 sv st.length (aDX st)
 mS:sv.ownBlock≠some N
 mM:sv.ownBlock≠some m
 nM:N≠m
 bN:base≤N
 bm:base≤m
 lm:m<w.heap.size
def skS(s:Sta):Value:=sk s.part s.type
structure aV9(base N m:Nat)(sv:Value)(G:Value→Option Value)(st:List Sta)(wy:List (List ByteArray))(w:World):Prop where
 way:∀i,i<st.length→∃a c,G (skS (sta st i))=some (.slice a (wth wy i).length c)∧Strs w (OffP base N m sv w) (wth wy i) a
 none:∀x:Sta,x∉ st→G (skS x)=none
structure RcI(base N m:Nat)(c0 c1 c2:Value)(st:List Sta)(wy:List (List ByteArray))(sv:Value)(w:World):Prop where
 b:RcB base N m c0 c1 c2 st sv w
 len:wy.length=st.length
 map:∃G,aDC w SKs m G∧aV9 base N m sv G st wy w
structure ChgP(N m:Nat)(sv:Value)(w w':World):Prop where
 os:w'.os=w.os
 tape:w'.tape=w.tape
 output:w'.output=w.output
 size:w.heap.size≤w'.heap.size
 block:∀b,b<w.heap.size→b≠N→b≠m→sv.ownBlock≠some b→w'.heap[b]?=w.heap[b]?
theorem ChgP.of_below{N m:Nat}{sv:Value}{w w':World}(h:Below w.heap.size w w'):ChgP N m sv w w':=⟨h.os,h.tape,h.output,h.size,fun b hb _ _ _=>h.block b hb⟩
theorem aQ9{x y:Sta}(h:skS x=skS y):x=y:=by
 obtain⟨h1,h2⟩:=aUR h
 exact aRJ (by omega) h2
variable {base N m:Nat} {c0 c1 c2 sv:Value} {st:List Sta} {wy:List (List ByteArray)} {w:World}
theorem RcB.lN(h:RcB base N m c0 c1 c2 st sv w):N<w.heap.size:=(Array.getElem?_eq_some_iff.1 h.box).1
theorem RcB.keep{W:World}(h:RcB base N m c0 c1 c2 st sv w)(hb:Below w.heap.size w W):RcB base N m c0 c1 c2 st sv W:=
 ⟨(hb.block N h.lN).trans h.box,aAE h.srow hb,h.mS,h.mM,h.nM,h.bN,h.bm,Nat.lt_of_lt_of_le h.lm hb.size⟩
theorem RcI.keep{W:World}(h:RcI base N m c0 c1 c2 st wy sv w)(hb:Below w.heap.size w W):RcI base N m c0 c1 c2 st wy sv W:=by
 obtain⟨G,hO,hG⟩:=h.map
 refine⟨h.b.keep hb,h.len,G,hO.of_block (hb.block m h.b.lm),fun i hi=>?_,hG.none⟩
 obtain⟨a,c,h1,h2⟩:=hG.way i hi
 exact⟨a,c,h1,(h2.mono fun b hb'=>hb.block b hb'.2.1).sub fun b hb'=>⟨hb'.1,Nat.lt_of_lt_of_le hb'.2.1 hb.size,hb'.2.2⟩⟩
theorem RcB.cells(h:RcB base N m c0 c1 c2 st sv w):(w.cell? ⟨N,0,none⟩=some c0∧w.cell? ⟨N,1,none⟩=some c1∧w.cell? ⟨N,2,none⟩=some c2)∧w.cell? ⟨N,3,none⟩=some sv∧w.cell? ⟨N,4,none⟩=some (.map (some m)):=
 ⟨⟨(aA1 h.box 0 (by simp)).1,(aA1 h.box 1 (by simp)).1,(aA1 h.box 2 (by simp)).1⟩,(aA1 h.box 3 (by simp)).1,(aA1 h.box 4 (by simp)).1⟩
theorem aT9(w:World):(zeroValue 33).run Tryz.prog w=.ok (.slice none 0 0) w:=by kernel_rfl
theorem RcI.look(h:RcI base N m c0 c1 c2 st wy sv w)(x:Sta):(x∈ st→∃a c wa,(∃i,i<st.length∧sta st i=x∧wth wy i=wa)∧Strs w (OffP base N m sv w) wa a∧(∀cm,(Instr.lookup 64 (.map (some m)) (.agg #[.int .i64 x.part,.string x.type]) cm).run Tryz.prog w=.ok (if cm then .tuple #[.slice a wa.length c,.bool true] else .slice a wa.length c) w))∧
  (x∉ st→(Instr.lookup 64 (.map (some m)) (.agg #[.int .i64 x.part,.string x.type]) true).run Tryz.prog w=.ok (.tuple #[.slice none 0 0,.bool false]) w):=by
 obtain⟨G,hO,hG⟩:=h.map
 have hl:=fun cm=>hO.lookG cm (aUN w) Tryz.underlying64 (aT9 w) (x:=skS x) ⟨_,_,rfl⟩
 refine⟨fun hx=>?_,fun hx=>?_⟩
 ·obtain⟨i,hi,e⟩:=List.getElem_of_mem hx
  have e2:sta st i=x:=by rw[←e];simp[sta,List.getD_eq_getElem?_getD,hi]
  obtain⟨a,c,h1,h2⟩:=hG.way i hi
  rw[e2] at h1
  refine⟨a,c,wth wy i,⟨i,hi,e2,rfl⟩,h2,fun cm=>?_⟩
  have:=hl cm
  rw[h1] at this
  exact this
 ·have:=hl true
  rw[hG.none x hx] at this
  exact this
theorem RcI.come{x:Sta}{way:List ByteArray}{a:Option Addr}{c:Nat}(h:RcI base N m c0 c1 c2 st wy sv w)(hx:x∉ st)(hS:Strs w (OffP base N m sv w) way a)
  {wT:World} {G G2:Value→Option Value} (hG:aDC w SKs m G∧aV9 base N m sv G st wy w) (hO2:aDC wT SKs m G2) (h1:G2 (skS x)=some (.slice a way.length c)) (h2:∀y,y≠skS x→G2 y=G y) (hgT:w.grownBy wT (some m))
  {W wF:World} (hb:Below wT.heap.size wT W) {sv':Value} (ho:wF.ownsRow base 72 2 sv' (st.length+1) (aDX st++aKY x)) (hg:W.grownBy wF sv.ownBlock) (hn:∀g,sv'.ownBlock=some g→sv.ownBlock=some g∨g=W.heap.size):
  (wF.cell? ⟨N,3,none⟩=some sv∧wF.frozen? ⟨N,3,none⟩=false)∧RcI base N m c0 c1 c2 (st++[x]) (wy++[way]) sv' (wF.setCell ⟨N,3,none⟩ sv')∧ChgP N m sv w (wF.setCell ⟨N,3,none⟩ sv')∧(∀g,sv'.ownBlock=some g→sv.ownBlock=some g∨w.heap.size≤g):=by
 have s1:=hgT.size;have s2:=hb.size;have s3:=hg.size
 have lN:=h.b.lN;have lm:=h.b.lm
 have nN:sv'.ownBlock≠some N:=fun e=>by
  rcases hn N e with e1| e1
  ·exact h.b.mS e1
  ·omega
 have nm:sv'.ownBlock≠some m:=fun e=>by
  rcases hn m e with e1| e1
  ·exact h.b.mM e1
  ·omega
 have hblk:∀b,b<w.heap.size→b≠m→sv.ownBlock≠some b→wF.heap[b]?=w.heap[b]?:=fun b hb1 hb2 hb3=>(hg.block b (by omega) fun e=>hb3 e.symm).trans ((hb.block b (by omega)).trans (hgT.block b hb1 fun e=>hb2 (Option.some.inj e)))
 have hset:∀b,b≠N→(wF.setCell ⟨N,3,none⟩ sv').heap[b]?=wF.heap[b]?:=fun b hb=>Below.heap_setCell _ _ _ _ hb
 have hbN:=(hblk N lN h.b.nM h.b.mS).trans h.b.box
 have hst:∀(l:List ByteArray) (a:Option Addr),Strs w (OffP base N m sv w) l a→Strs (wF.setCell ⟨N,3,none⟩ sv') (OffP base N m sv' (wF.setCell ⟨N,3,none⟩ sv')) l a:=fun l a hS=>(hS.mono fun b hb'=>(hset b hb'.2.2.2.1).trans (hblk b hb'.2.1 hb'.2.2.2.2 hb'.2.2.1)).sub fun b hb'=>⟨hb'.1,by rw[aBQ];have:=hb'.2.1;omega,fun e=>by
  rcases hn b e with e1| e1
  ·exact hb'.2.2.1 e1
  ·have:=hb'.2.1;omega,hb'.2.2.2⟩
 have hmm:(wF.setCell ⟨N,3,none⟩ sv').heap[m]?=wT.heap[m]?:=(hset m fun e=>h.b.nM e.symm).trans ((hg.block m (by omega) fun e=>h.b.mM e.symm).trans (hb.block m (by omega)))
 refine⟨⟨(aA1 hbN 3 (by simp)).1,(aA1 hbN 3 (by simp)).2⟩,⟨⟨by simpa using aAB hbN 3 sv',?_,nN,nm,h.b.nM,h.b.bN,h.b.bm,by rw[aBQ];omega⟩,by simp[h.len],G2,hO2.of_block hmm,fun i hi=>?_,fun y hy=>?_⟩,
  ⟨hg.os.trans (hb.os.trans hgT.os),hg.tape.trans (hb.tape.trans hgT.tape),hg.output.trans (hb.output.trans hgT.output),by rw[aBQ];omega,fun b hb1 hb2 hb3 hb4=>(hset b hb2).trans (hblk b hb1 hb3 hb4)⟩,fun g e=>(hn g e).imp id fun e=>by omega⟩
 ·rw[aJP,List.length_append,List.length_singleton]
  exact aB1 ho fun g hg'=>Below.heap_setCell _ _ _ _ fun e=>nN (by have e:g=N:=e;rw[←e];exact hg')
 ·rw[List.length_append,List.length_singleton] at hi
  by_cases e:i<st.length
  ·obtain⟨a',c',q1,q2⟩:=hG.2.way i e
   rw[aPK _ _ e,aFN _ _ (by rw[h.len];exact e)]
   refine⟨a',c',(h2 _ fun e2=>hx ?_).trans q1,hst _ _ q2⟩
   rw[←aQ9 e2]
   exact aG8 e
  ·have e2:i=st.length:=by omega
   subst e2
   rw[aUA,←h.len,aLA]
   exact⟨a,c,h1,hst _ _ hS⟩
 ·rw[List.mem_append,List.mem_singleton,not_or] at hy
  rw[h2 _ fun e=>hy.2 (aQ9 e)]
  exact hG.2.none y hy.1
end Go.Proofs.YtcebpkeiaiiphaaGreatDoor
namespace Go.Proofs.YtcebpkeiaiiphaaGreatDoor
open Go.RowKit Go.Maps
def OffR(base M:Nat)(sv wv:Value)(w:World)(b:Nat):Prop:=base≤b∧b<w.heap.size∧sv.ownBlock≠some b∧wv.ownBlock≠some b∧b≠M
structure WkM(base M:Nat)(ss:List Sta)(wy:List (List ByteArray))(bad:List ByteArray)(sv wv bv:Value)(WV:List Value)(w:World):Prop where
 box:w.heap[M]?=some (.cells #[sv,wv,bv] 56 (0,0))
 srow:w.ownsRow base 72 2 sv ss.length (aDX ss)
 wrow:w.ownsRow base 33 1 wv wy.length WV
 wlen:WV.length=wy.length
 apart:∀g,sv.ownBlock=some g→wv.ownBlock≠some g
 mS:sv.ownBlock≠some M
 mW:wv.ownBlock≠some M
 mB:base≤M
 way:∀i,i<wy.length→∃a c,WV[i]?=some (.slice a (wth wy i).length c)∧Strs w (OffR base M sv wv w) (wth wy i) a
 bads:∃a c,bv=.slice a bad.length c∧Strs w (OffR base M sv wv w) bad a
variable {base M:Nat} {ss:List Sta} {wy:List (List ByteArray)} {bad:List ByteArray} {sv wv bv:Value} {WV:List Value} {w:World}
theorem WkM.mlt(h:WkM base M ss wy bad sv wv bv WV w):M<w.heap.size:=(Array.getElem?_eq_some_iff.1 h.box).1
theorem WkM.keep{W:World}(h:WkM base M ss wy bad sv wv bv WV w)(hb:Below w.heap.size w W):WkM base M ss wy bad sv wv bv WV W:=by
 have hs:=hb.size
 have hst:∀(l:List ByteArray) (a:Option Addr),Strs w (OffR base M sv wv w) l a→Strs W (OffR base M sv wv W) l a:=fun l a hS=>(hS.mono fun b hb'=>hb.block b hb'.2.1).sub fun b hb'=>⟨hb'.1,Nat.lt_of_lt_of_le hb'.2.1 hs,hb'.2.2⟩
 refine⟨(hb.block M h.mlt).trans h.box,aAE h.srow hb,aAE h.wrow hb,h.wlen,h.apart,h.mS,h.mW,h.mB,fun i hi=>?_,?_⟩
 ·obtain⟨a,c,h1,h2⟩:=h.way i hi
  exact⟨a,c,h1,hst _ _ h2⟩
 ·obtain⟨a,c,h1,h2⟩:=h.bads
  exact⟨a,c,h1,hst _ _ h2⟩
theorem WkM.pushS{wF:World}(h:WkM base M ss wy bad sv wv bv WV w){x:Sta}{sv':Value}(ho:wF.ownsRow base 72 2 sv' (ss.length+1) (aDX ss++aKY x))(hg:w.grownBy wF sv.ownBlock)(hn:∀g,sv'.ownBlock=some g→sv.ownBlock=some g∨g=w.heap.size):
  WkM base M (ss++[x]) wy bad sv' wv bv WV (wF.setCell ⟨M,0,none⟩ sv'):=by
 have hs:=hg.size
 have hml:=h.mlt
 have hM:sv'.ownBlock≠some M:=fun e=>by
  rcases hn M e with h1| h1
  ·exact h.mS h1
  ·omega
 have hw:∀g,wv.ownBlock=some g→g<w.heap.size:=fun g hg'=>(h.wrow.lt g hg').2
 have hblk:∀b,b<w.heap.size→sv.ownBlock≠some b→b≠M→(wF.setCell ⟨M,0,none⟩ sv').heap[b]?=w.heap[b]?:=fun b h1 h2 h3=>(Below.heap_setCell _ _ _ _ h3).trans (hg.block b h1 fun e=>h2 e.symm)
 have hst:∀(l:List ByteArray) (a:Option Addr),Strs w (OffR base M sv wv w) l a→Strs (wF.setCell ⟨M,0,none⟩ sv') (OffR base M sv' wv (wF.setCell ⟨M,0,none⟩ sv')) l a:=fun l a hS=>(hS.mono fun b hb=>hblk b hb.2.1 hb.2.2.1 hb.2.2.2.2).sub fun b hb=>⟨hb.1,by rw[aBQ];exact Nat.lt_of_lt_of_le hb.2.1 hs,fun e=>by
  rcases hn b e with h1| h1
  ·exact hb.2.2.1 h1
  ·have:=hb.2.1;omega,hb.2.2.2⟩
 refine⟨?_,?_,?_,h.wlen,fun g hg'=>?_,hM,h.mW,h.mB,fun i hi=>?_,?_⟩
 ·have h1:=(hg.block M hml fun e=>h.mS e.symm).trans h.box
  simpa using aAB h1 0 sv'
 ·rw[aJP,List.length_append,List.length_singleton]
  exact aB1 ho fun g hg'=>Below.heap_setCell _ _ _ _ fun e=>hM (by have e:g=M:=e;rw[←e];exact hg')
 ·exact aB1 h.wrow fun g hg'=>hblk g (hw g hg') (fun e=>h.apart g e hg') fun e=>h.mW (e▸hg')
 ·rcases hn g hg' with h1| h1
  ·exact h.apart g h1
  ·exact fun e=>by have:=hw g e;omega
 ·obtain⟨a,c,h1,h2⟩:=h.way i hi
  exact⟨a,c,h1,hst _ _ h2⟩
 ·obtain⟨a,c,h1,h2⟩:=h.bads
  exact⟨a,c,h1,hst _ _ h2⟩
theorem WkM.pushW{wF:World}(h:WkM base M ss wy bad sv wv bv WV w){way:List ByteArray}{a:Option Addr}{c:Nat}(hS:Strs w (OffR base M sv wv w) way a){wv':Value}(ho:wF.ownsRow base 33 1 wv' (wy.length+1) (WV++[.slice a way.length c]))(hg:w.grownBy wF wv.ownBlock)(hn:∀g,wv'.ownBlock=some g→wv.ownBlock=some g∨g=w.heap.size):
  WkM base M ss (wy++[way]) bad sv wv' bv (WV++[.slice a way.length c]) (wF.setCell ⟨M,1,none⟩ wv'):=by
 have hs:=hg.size
 have hml:=h.mlt
 have hM:wv'.ownBlock≠some M:=fun e=>by
  rcases hn M e with h1| h1
  ·exact h.mW h1
  ·omega
 have hw:∀g,sv.ownBlock=some g→g<w.heap.size:=fun g hg'=>(h.srow.lt g hg').2
 have hblk:∀b,b<w.heap.size→wv.ownBlock≠some b→b≠M→(wF.setCell ⟨M,1,none⟩ wv').heap[b]?=w.heap[b]?:=fun b h1 h2 h3=>(Below.heap_setCell _ _ _ _ h3).trans (hg.block b h1 fun e=>h2 e.symm)
 have hst:∀(l:List ByteArray) (a:Option Addr),Strs w (OffR base M sv wv w) l a→Strs (wF.setCell ⟨M,1,none⟩ wv') (OffR base M sv wv' (wF.setCell ⟨M,1,none⟩ wv')) l a:=fun l a hS=>(hS.mono fun b hb=>hblk b hb.2.1 hb.2.2.2.1 hb.2.2.2.2).sub fun b hb=>⟨hb.1,by rw[aBQ];exact Nat.lt_of_lt_of_le hb.2.1 hs,hb.2.2.1,fun e=>by
  rcases hn b e with h1| h1
  ·exact hb.2.2.2.1 h1
  ·have:=hb.2.1;omega,hb.2.2.2.2⟩
 refine⟨?_,?_,?_,by simp[h.wlen],fun g hg'=>?_,h.mS,hM,h.mB,fun i hi=>?_,?_⟩
 ·have h1:=(hg.block M hml fun e=>h.mW e.symm).trans h.box
  simpa using aAB h1 1 wv'
 ·exact aB1 h.srow fun g hg'=>hblk g (hw g hg') (fun e=>h.apart g hg' e) fun e=>h.mS (e▸hg')
 ·rw[List.length_append,List.length_singleton]
  exact aB1 ho fun g hg'=>Below.heap_setCell _ _ _ _ fun e=>hM (by have e:g=M:=e;rw[←e];exact hg')
 ·intro e
  rcases hn g e with h1| h1
  ·exact h.apart g hg' h1
  ·have:=hw g hg';omega
 ·rw[List.length_append,List.length_singleton] at hi
  by_cases e:i<wy.length
  ·obtain⟨a,c,h1,h2⟩:=h.way i e
   rw[aFN _ _ e]
   exact⟨a,c,by rw[List.getElem?_append_left (by have:=h.wlen;omega)];exact h1,hst _ _ h2⟩
  ·have e2:i=wy.length:=by omega
   subst e2
   rw[aLA]
   exact⟨a,c,by rw[←h.wlen];simp,hst _ _ hS⟩
 ·obtain⟨a,c,h1,h2⟩:=h.bads
  exact⟨a,c,h1,hst _ _ h2⟩
theorem WkM.setB(h:WkM base M ss wy bad sv wv bv WV w){way:List ByteArray}{a:Option Addr}{c:Nat}(hS:Strs w (OffR base M sv wv w) way a):
  WkM base M ss wy way sv wv (.slice a way.length c) WV (w.setCell ⟨M,2,none⟩ (.slice a way.length c)):=by
 have hblk:∀b,b≠M→(w.setCell ⟨M,2,none⟩ (.slice a way.length c)).heap[b]?=w.heap[b]?:=fun b h3=>Below.heap_setCell _ _ _ _ h3
 have hst:∀(l:List ByteArray) (a':Option Addr),Strs w (OffR base M sv wv w) l a'→Strs (w.setCell ⟨M,2,none⟩ (.slice a way.length c)) (OffR base M sv wv (w.setCell ⟨M,2,none⟩ (.slice a way.length c))) l a':=fun l a' hS=>(hS.mono fun b hb=>hblk b hb.2.2.2.2).sub fun b hb=>⟨hb.1,by rw[aBQ];exact hb.2.1,hb.2.2⟩
 refine⟨by simpa using aAB h.box 2 (.slice a way.length c),aB1 h.srow fun g hg'=>hblk g fun e=>h.mS (e▸hg'),aB1 h.wrow fun g hg'=>hblk g fun e=>h.mW (e▸hg'),h.wlen,h.apart,h.mS,h.mW,h.mB,fun i hi=>?_,a,c,rfl,hst _ _ hS⟩
 obtain⟨a,c,h1,h2⟩:=h.way i hi
 exact⟨a,c,h1,hst _ _ h2⟩
theorem WkM.stAt(h:WkM base M ss wy bad sv wv bv WV w)(i:Nat)(hi:i<ss.length):∃g cap,sv=.slice (some ⟨g,0,none⟩) ss.length cap∧ss.length≤cap∧w.cell? ⟨g,i*2,none⟩=some (.int .i64 (sta ss i).part)∧w.cell? ⟨g,i*2+1,none⟩=some (.string (sta ss i).type):=by
 rcases h.srow.2 with⟨e,e0⟩| ⟨g,cap,cur,e,hb,hh,hc,hm,hl,ht⟩
 ·have:ss=[]:=by
   cases ss with
   |nil=>rfl
   |cons x r=>simp[aDX,aKY] at e0
  subst this;simp at hi
 ·have hsr:=h.srow
  rw[e] at hsr
  obtain⟨-,-,hS⟩:=aJL hsr
  obtain⟨b,off,e2,-,c0,c1⟩:=hS.at i hi
  simp only[Option.some.injEq,Addr.mk.injEq,and_true] at e2
  obtain⟨rfl,rfl⟩:=e2
  rw[Nat.zero_add] at c0 c1
  exact⟨g,cap,e,hc,c0,c1⟩
theorem WkM.wyAt(h:WkM base M ss wy bad sv wv bv WV w)(i:Nat)(hi:i<wy.length):∃g cap a c,wv=.slice (some ⟨g,0,none⟩) wy.length cap∧wy.length≤cap∧w.cell? ⟨g,i,none⟩=some (.slice a (wth wy i).length c)∧Strs w (OffR base M sv wv w) (wth wy i) a:=by
 obtain⟨a,c,h1,h2⟩:=h.way i hi
 rcases h.wrow.2 with⟨e,e0⟩| ⟨g,cap,cur,e,hb,hh,hc,hm,hl,ht⟩
 ·have:=h.wlen
  rw[e0] at this
  simp at this
  omega
 ·refine⟨g,cap,a,c,e,hc,?_,h2⟩
  have hw:=h.wrow
  rw[e] at hw
  rw[hw.cellAt i (by omega)]
  exact h1
section
variable {w:World} {P:Nat→Prop} {B:Nat} {X:Su} {c:Nat} {V:Sv}
set_option maxRecDepth 20000 in
set_option maxHeartbeats 1600000 in
theorem aIJ(h:SuL w P B X c V)(pa:Option Addr)(pl pc:Nat)(nm:ByteArray):
  Calls Tryz.prog 115 #[.agg (V.cells (.slice pa pl pc)),.string nm] w fun e w'=>e=.returned (.string (aGO (X.ky nm)))∧Below w.heap.size w w':=by
 obtain⟨p1,r1,k1,p2,r2,k2,p3,r3,k3,p4,r4,k4,HV⟩:=h.form (.slice pa pl pc)
 rw[HV]
 obtain⟨a,k,hs,hlk⟩:=h.keys nm
 have bX:=aA2 w (.cells #[.slice pa pl pc,.slice p1 r1 k1,.map (some V.m1),.slice p2 r2 k2,.map (some V.m2),.slice p3 r3 k3,.map (some V.m3),.slice p4 r4 k4,.map (some V.m4)] 146)
 have hlk0:=hlk _ bX
 have hs2:=hs.under bX
 have hle:=h.le.ky nm
 clear h hlk HV hs
 cases hk:X.ky nm with
 |nil=>
  rw[hk] at hlk0
  simp only[List.length_nil] at hlk0
  clear hs2 hle
  go_enter Tryz.func115,Tryz.ntmps115
  go_wp2_with fail
  go_ret
  exact⟨rfl,bX⟩
 |cons k0 r=>
  rw[hk] at hlk0 hs2
  obtain⟨g,rfl,hg,hc⟩:=hs2 (by simp)
  have c0:=hc 0 (by simp)
  simp only[nth,List.getD_cons_zero] at c0
  obtain⟨n,hn⟩:∃n,n=(k0::r).length:=⟨_,rfl⟩
  rw[←hn] at hlk0
  have hn0:(0:Int)<(n:Int):=by rw[hn];simp only[List.length_cons];omega
  clear hc hle hn
  go_enter Tryz.func115,Tryz.ntmps115
  go_wp2_with fail
  go_ret
  exact⟨rfl,bX⟩
theorem aP9(f:F)(na:Option Addr)(nc:Nat)(w:World):
  Calls Tryz.prog 171 #[.agg #[.string f.name,.string f.of,.bool f.list,.bool f.must,.bool f.far,.bool f.hidden,.bool f.shared,.slice na f.needs.length nc]] w fun e w'=>e=.returned (.bool (decide (0<f.needs.length)))∧Below w.heap.size w w':=by
 have bX:=aA2 w (.cells #[.string f.name,.string f.of,.bool f.list,.bool f.must,.bool f.far,.bool f.hidden,.bool f.shared,.slice na f.needs.length nc] 80)
 obtain⟨n,hn⟩:∃n,n=f.needs.length:=⟨_,rfl⟩
 rw[←hn] at bX ⊢
 clear hn
 by_cases h:0<n
 ·have hi:(0:Int)<(n:Int):=by omega
  have hd:=aA0 (decide_eq_true h)
  go_enter Tryz.func171,Tryz.ntmps171
  go_wp2_with fail
  go_ret
  exact⟨by first| exact aA4 hd.out.symm| rfl,bX⟩
 ·have hi:¬(0:Int)<(n:Int):=by omega
  have hd:=aA0 (decide_eq_false h)
  go_enter Tryz.func171,Tryz.ntmps171
  go_wp2_with fail
  go_ret
  exact⟨by first| exact aA4 hd.out.symm| rfl,bX⟩
theorem aQJ(L:List F):aBI L=decide (0≤aA9 (fun i=>decide (0<(fth L i).needs.length)) L.length):=by
 unfold aBI
 rcases aA8 (fun i=>decide (0<(fth L i).needs.length)) L.length with⟨h2,h3⟩| ⟨k,h2,hk,hq,-⟩
 ·rw[h2,decide_eq_false (by omega),List.any_eq_false]
  intro x hx
  obtain⟨i,hi,e⟩:=List.mem_iff_getElem.1 hx
  have h4:=h3 i hi
  have e2:fth L i=x:=by rw[←e];simp[fth,List.getD_eq_getElem?_getD,hi]
  rw[e2] at h4
  simpa using h4
 ·rw[h2,decide_eq_true (by omega),List.any_eq_true]
  exact⟨fth L k,by simp[fth,List.getD_eq_getElem?_getD,hk],hq⟩
set_option maxHeartbeats 1600000 in
theorem aK3(L:List F)(w:World)(B:Nat)(a:Option Addr)(c:Nat)(hR:aBE w (·<B) L a)(hB:B≤w.heap.size):
  Calls Tryz.prog 176 #[.slice a L.length c,.func (.func 171) #[] #[]] w fun e w'=>e=.returned (.int .i64 (aA9 (fun i=>decide (0<(fth L i).needs.length)) L.length))∧Below w.heap.size w w':=by
 have h64:=hR.1
 have HR:=aA0 hR
 have HBL:=aA0 hB
 clear hR hB
 obtain⟨n,HN⟩:∃n,Hid (n=L.length):=⟨_,aA0 rfl⟩
 rw[←HN.out] at h64 ⊢
 go_enter Tryz.func176,Tryz.ntmps176
 go_wp2_with fail
 go_loopw [8] (fun i wr=>∃k:Nat,k≤n∧i=.int .i64 k∧Hid (∀j,j<k→decide (0<(fth L j).needs.length)=false)∧Below w.heap.size w wr) (fun i _=>n- (intOf i).toNat)
 case atStart=>exact⟨0,Nat.zero_le _,rfl,aA0 (fun j hj=>by omega),Below.refl _ _⟩
 case round=>
  obtain⟨k,hk,rfl,HQ,hb⟩:=hrel
  obtain⟨w0,rfl⟩:∃x,x=wr:=⟨wr,rfl⟩
  have zb:=hb.size
  by_cases hlt:k<n
  case neg=>
   have e:k=n:=by omega
   subst e
   have HE:=aA0 (aB2 (p:=fun i=>decide (0<(fth L i).needs.length)) HQ.out)
   go_wp2_with fail
   go_ret
   exact⟨by rw[HE.out]<;>rfl,hb⟩
  have hki:(k:Int)<(n:Int):=by omega
  obtain⟨fb,fo,na,nc,rfl,-,hcc⟩:=HR.out.at HBL.out k (by rw[←HN.out];exact hlt)
  obtain⟨x0,x1,x2,x3,x4,x5,x6,x7⟩:=hcc w0 hb
  have HF:=aA0 (aP9 (fth L k) na nc w0)
  have HHK:Hid (decide (0<(fth L k).needs.length)=true→aA9 (fun i=>decide (0<(fth L i).needs.length)) n=(k:Nat)):=aA0 fun h=>aAU HQ.out h hlt
  have HX:Hid (decide (0<(fth L k).needs.length)=false→∀j,j<k+1→decide (0<(fth L j).needs.length)=false):=aA0 fun h j hj=>by
   by_cases e:j=k
   ·subst e;exact h
   ·exact HQ.out j (by omega)
  clear hcc
  generalize fth L k=f at*
  obtain⟨nl,HNL⟩:∃x,Hid (x=f.needs.length):=⟨_,aA0 rfl⟩
  rw[←HNL.out] at HF HHK HX x7
  cases hq:decide (0<nl)
  ·rw[hq] at HF
   have HX2:=aA0 (HX.out hq)
   clear hq
   go_wp2_with fail
   refine HF.out.mono ?_
   rintro e w1 ⟨rfl,hb1⟩
   have hb01:=hb.trans (hb1.mono zb)
   go_wp2_with fail
   go_roundw
   case measure=>simp[intOf];omega
   case rel=>exact⟨k+1,by omega,by go_num,HX2,hb01⟩
  ·rw[hq] at HF
   have HE:=aA0 (HHK.out hq)
   clear hq
   go_wp2_with fail
   refine HF.out.mono ?_
   rintro e w1 ⟨rfl,hb1⟩
   have hb01:=hb.trans (hb1.mono zb)
   go_wp2_with fail
   go_ret
   exact⟨by rw[HE.out]<;>rfl,hb01⟩
theorem aH8(L:List F)(w:World)(B:Nat)(a:Option Addr)(c:Nat)(hR:aBE w (·<B) L a)(hB:B≤w.heap.size):
  Calls Tryz.prog 170 #[.slice a L.length c,.func (.func 171) #[] #[]] w fun e w'=>e=.returned (.bool (aBI L))∧Below w.heap.size w w':=by
 have HI:=aA0 (aK3 L w B a c hR hB)
 have HE:=aA0 (aQJ L)
 clear hR hB
 generalize aA9 (fun i=>decide (0<(fth L i).needs.length)) L.length=q at*
 by_cases h0:0≤q
 ·have HD:=aA0 (decide_eq_true h0)
  have h1:q≥ 0:=h0
  go_enter Tryz.func170,Tryz.ntmps170
  go_wp2_with (go_at_call 176;refine HI.out.mono ?_;rintro e w1 ⟨rfl,hb1⟩)
  go_ret
  exact⟨aA4 (by rw[HE.out,HD.out]),hb1⟩
 ·have HD:=aA0 (decide_eq_false h0)
  have h1:¬q≥ 0:=h0
  go_enter Tryz.func170,Tryz.ntmps170
  go_wp2_with (go_at_call 176;refine HI.out.mono ?_;rintro e w1 ⟨rfl,hb1⟩)
  go_ret
  exact⟨aA4 (by rw[HE.out,HD.out]),hb1⟩
theorem aHW(h:SuL w P B X c V)(hP:∀b,P b→b<B)(hB:B≤w.heap.size)(hc:c≤100000)(pa:Option Addr)(pl pc:Nat)(nm n:ByteArray):
  Calls Tryz.prog 148 #[.agg (V.cells (.slice pa pl pc)),.agg #[.string nm,.string n]] w fun e w'=>e=.returned (.bool (aBI (X.sd nm n)))∧Below w.heap.size w w':=by
 obtain⟨p1,r1,k1,p2,r2,k2,p3,r3,k3,p4,r4,k4,HV⟩:=h.form (.slice pa pl pc)
 rw[HV]
 obtain⟨a,k,hs,hlk⟩:=h.flds hP hB hc nm n
 have bX:=aA5 w (.cells #[.slice pa pl pc,.slice p1 r1 k1,.map (some V.m1),.slice p2 r2 k2,.map (some V.m2),.slice p3 r3 k3,.map (some V.m3),.slice p4 r4 k4,.map (some V.m4)] 146) (.cells #[.string nm,.string n] 153)
 have hlk0:=hlk _ bX
 simp only[fk] at hlk0
 have zX:=bX.size
 have HC:=aA0 (aH8 (X.sd nm n) _ w.heap.size a k (hs.under bX) zX)
 clear h hlk HV hs
 go_enter Tryz.func148,Tryz.ntmps148
 go_wp2_with fail
 refine HC.out.mono ?_
 rintro e w1 ⟨rfl,hb1⟩
 have hb2:=bX.trans (hb1.mono zX)
 go_wp2_with fail
 go_ret
 exact⟨rfl,hb2⟩
end
end Go.Proofs.YtcebpkeiaiiphaaGreatDoor
