import Derived.Test.YtcebpkeiaiiphaaGreatDoorRC31
set_option linter.unusedSimpArgs false
set_option linter.unusedVariables false
namespace Go.Proofs.YtcebpkeiaiiphaaGreatDoor
open Go.RowKit
def wth(ws:List (List ByteArray))(i:Nat):List ByteArray:=ws.getD i []
def qB(nm:ByteArray):Bool:=nm.toList==[113,117,101,114,121]
def aCV(p:Pt)(nm:ByteArray):Bool:=!(aA5 p nm).key.toList.isEmpty
def aCE(p:Pt)(nm n:ByteArray):Bool:=aGF p nm n&&decide ((sayF p nm n).needs.length=0)
def aDL(ps:List Pt)(nm n:ByteArray)(i:Nat):Bool:=aGF (pth ps i) nm n&&(qB nm||aCV (pth ps i) nm)
def aC2(ps:List Pt)(nm n:ByteArray):Int:=aA9 (aDL ps nm n) ps.length
def aCS(ps:List Pt)(nm n:ByteArray):F:=if 0<=aC2 ps nm n then sayF (pth ps (aC2 ps nm n).toNat) nm n else F.zero
def aG1(ps:List Pt)(s:Nat)(nm n:ByteArray):Bool:=aCE (pth ps s) nm n||decide (0<=aC2 ps nm n)
def aDU(ps:List Pt)(s:Nat)(nm:ByteArray)(ns:List ByteArray)(k:Nat):Bool:=aA7 (fun i=>aG1 ps s nm (nth ns i)) k
def aJN(ps:List Pt)(s:Nat)(nm:ByteArray)(ns:List ByteArray):Bool:=aCV (pth ps s) nm&&aDU ps s nm ns ns.length
def aCT(ps:List Pt)(s:Nat)(nm n:ByteArray):Bool:=(!qB nm&&aCE (pth ps s) nm n)||(decide (0<=aC2 ps nm n)&&(qB nm||aJN ps s nm (aCS ps nm n).needs))
def aEO(ps:List Pt)(s:Nat)(nm n:ByteArray):Nat:=if(!qB nm&&aCE (pth ps s) nm n)=true then s else(aC2 ps nm n).toNat
def aCG(ss:List Sta)(x:Sta):Int:=aA9 (fun i=>decide ((sta ss i).part=x.part)&&((sta ss i).type.toList==x.type.toList)) ss.length
structure Wk where
 st:List Sta
 wy:List (List ByteArray)
 bad:List ByteArray
def Wk.fld(ps:List Pt)(s:Sta)(way:List ByteArray)(W:Wk)(f:F):Wk:=
 if f.hidden=true then W
 else if aCT ps s.part s.type f.name=true then
  (if aAV f.of=true then W
   else if 0<=aCG W.st ⟨aEO ps s.part s.type f.name,f.of⟩ then W
   else⟨W.st++[⟨aEO ps s.part s.type f.name,f.of⟩],W.wy++[way++[f.name]],W.bad⟩)
 else⟨W.st,W.wy,if W.bad.length=0 then way++[f.name] else W.bad⟩
def Wk.flds(ps:List Pt)(s:Sta)(way:List ByteArray)(fs:List F)(W:Wk):Nat->Wk
 |0=>W
 |k+1=>(W.flds ps s way fs k).fld ps s way (fth fs k)
def Wk.turn(ps:List Pt)(all:Pt)(i:Nat)(W:Wk):Wk:=
 W.flds ps (sta W.st i) (wth W.wy i) (aA5 all (sta W.st i).type).fields (aA5 all (sta W.st i).type).fields.length
def wkTo(ps:List Pt)(all:Pt):Nat->Wk
 |0=>⟨[⟨0,qry⟩],[[]],[]⟩
 |n+1=>(wkTo ps all n).turn ps all n
def wkN(ps:List Pt)(all:Pt):Nat:=(aA9 (fun n=>decide ((wkTo ps all n).st.length<=n)) 30).toNat
def wkE(ps:List Pt)(all:Pt):Wk:=wkTo ps all (wkN ps all)
theorem aHN{q:Nat->Bool}{n:Nat}(h:0<=aA9 q n):(aA9 q n).toNat<n∧q (aA9 q n).toNat=true∧∀i,i<(aA9 q n).toNat->q i=false:=by
 rcases aA8 q n with⟨e,-⟩| ⟨k,e,h1,h2,h3⟩
 ·omega
 ·rw[e];exact⟨h1,h2,h3⟩
theorem aP4{ps:List Pt}{s:Nat}{nm n:ByteArray}(hs:s<ps.length)(h:aCT ps s nm n=true):aEO ps s nm n<ps.length:=by
 unfold aEO;cases hl:(!qB nm&&aCE (pth ps s) nm n)
 ·rw[if_neg (by simp)]
  unfold aCT at h;rw[hl,Bool.false_or,Bool.and_eq_true,decide_eq_true_eq] at h;exact(aHN h.1).1
 ·rw[if_pos rfl];exact hs
theorem aUL{a b:ByteArray}(h:a.toList=b.toList):a=b:=by
 have h2:a.data.toList=b.data.toList:=by simpa[ByteArray.toList_eq] using h
 cases a;cases b;simp at h2
 congr
theorem aQT{a b:Sta}(h1:a.part=b.part)(h2:a.type=b.type):a=b:=by cases a;cases b;simp_all
theorem aKH{ss:List Sta}{x:Sta}:0<=aCG ss x↔x∈ ss:=by
 constructor
 ·intro h;obtain⟨h1,h2,-⟩:=aHN h;obtain⟨i,e⟩:∃i,(aCG ss x).toNat=i:=⟨_,rfl⟩;have h1:(aCG ss x).toNat<ss.length:=h1;have h2:(decide ((sta ss (aCG ss x).toNat).part=x.part)&&((sta ss (aCG ss x).toNat).type.toList==x.type.toList))=true:=h2;rw[e] at h1 h2;simp only[Bool.and_eq_true,decide_eq_true_eq,beq_iff_eq] at h2;have e2:sta ss i=ss[i]:=by simp[sta,List.getD_eq_getElem?_getD,h1]
  rw[e2] at h2;have:x=ss[i]:=aQT h2.1.symm (aUL h2.2.symm);rw[this];exact List.getElem_mem h1
 ·intro h;obtain⟨i,hi,rfl⟩:=List.getElem_of_mem h;exact aF7 hi (by simp[sta,List.getD_eq_getElem?_getD,hi])
structure WkOk(ps:List Pt)(all:Pt)(W:Wk):Prop where
 len:W.wy.length=W.st.length
 nd:W.st.Nodup
 part:∀s∈ W.st,s.part<ps.length
 type:∀s∈ W.st,0<=aAR all s.type
 wlen:∀i,i<W.st.length->(wth W.wy i).length<=i
 wsz:∀i,i<W.st.length->∀t∈ wth W.wy i,t.size<=1048576
 blen:W.bad.length<=W.st.length
 bsz:∀t∈ W.bad,t.size<=1048576
theorem pigR:∀(n:Nat) (l:List Nat),l.Nodup->(∀x∈ l,x<n)->l.length<=n
 |0,l,_,h=>by
  cases l with
  |nil=>exact Nat.le_refl _
  |cons a r=>exact absurd (h a (by simp)) (by omega)
 |n+1,l,hd,h=>by
  have h1:=pigR n (l.erase n) (hd.erase n) fun x hx=>by
   have h2:=h x (List.mem_of_mem_erase hx);have h3:x≠n:=fun e=>by subst e;exact(List.Nodup.not_mem_erase hd) hx
   omega
  rw[List.length_erase] at h1;split at h1<;>omega
theorem WkOk.few{ps:List Pt}{all:Pt}{W:Wk}(h:WkOk ps all W)(hp:ps.length<=4)(ha:all.types.length<=5):W.st.length<=20:=by
 have hc:∀s∈ W.st,(aAR all s.type).toNat<5∧(tth all.types (aAR all s.type).toNat).name=s.type:=fun s hs=>by
  obtain⟨k,e,h1,h2⟩:=aC8 (h.type s hs);rw[e];exact⟨by simp only[Int.toNat_natCast];omega,h2⟩
 have h1:=pigR 20 (W.st.map fun s=>s.part*5+(aAR all s.type).toNat) (by
  rw[List.nodup_iff_pairwise_ne,List.pairwise_map];refine List.Pairwise.imp_of_mem ?_ h.nd;intro a b ha hb hne e;obtain⟨a1,a2⟩:=hc a ha;obtain⟨b1,b2⟩:=hc b hb;have e1:(aAR all a.type).toNat=(aAR all b.type).toNat:=by omega
  have e2:a.part=b.part:=by omega
  rw[e1,b2] at a2;exact hne (aQT e2 a2.symm)) (fun x hx=>by
   obtain⟨s,hs,rfl⟩:=List.mem_map.1 hx;have:=h.part s hs;have:=(hc s hs).1;omega)
 rw[List.length_map] at h1;exact h1
theorem aLL(a:List (List ByteArray))(t:List ByteArray):wth (a++[t]) a.length=t:=by simp[wth,List.getD_eq_getElem?_getD]
theorem aFY(a:List (List ByteArray))(t:List ByteArray){i:Nat}(h:i<a.length):wth (a++[t]) i=wth a i:=by simp[wth,List.getD_eq_getElem?_getD,List.getElem?_append_left h]
theorem aUQ(a:List Sta)(t:Sta):sta (a++[t]) a.length=t:=by simp[sta,List.getD_eq_getElem?_getD]
theorem aPM(a:List Sta)(t:Sta){i:Nat}(h:i<a.length):sta (a++[t]) i=sta a i:=by simp[sta,List.getD_eq_getElem?_getD,List.getElem?_append_left h]
theorem aGH{a:List Sta}{i:Nat}(h:i<a.length):sta a i∈ a:=by
 have:sta a i=a[i]:=by simp[sta,List.getD_eq_getElem?_getD,h]
 rw[this];exact List.getElem_mem h
structure WkIn(ps:List Pt)(all:Pt)(s:Sta)(way:List ByteArray)(i:Nat):Prop where
 part:s.part<ps.length
 wlen:way.length<=i
 wsz:∀t∈ way,t.size<=1048576
theorem WkOk.fld{ps:List Pt}{all:Pt}{W:Wk}(h:WkOk ps all W){s:Sta}{way:List ByteArray}{i:Nat}(hs:WkIn ps all s way i)(hi:i<W.st.length){f:F}(hk:(decide (0<=aAR all f.of)||aAV f.of)=true)(hz:f.name.size<=1048576):WkOk ps all (W.fld ps s way f):=by
 have hsz:∀t∈ way++[f.name],t.size<=1048576:=fun t ht=>by
  rw[List.mem_append,List.mem_singleton] at ht;rcases ht with ht| rfl
  ·exact hs.wsz t ht
  ·exact hz
 unfold Wk.fld;split
 ·exact h
 split
 ·rename_i hn;split
  ·exact h
  rename_i hsc;split
  ·exact h
  rename_i hse;have hnm:(⟨aEO ps s.part s.type f.name,f.of⟩:Sta)∉ W.st:=fun hm=>hse (aKH.2 hm);refine⟨by simp[h.len],?_,?_,?_,?_,?_,by have:=h.blen;simp;omega,h.bsz⟩
  ·rw[List.nodup_append];exact⟨h.nd,by simp,fun a ha b hb=>by simp at hb;subst hb;exact fun e=>hnm (e▸ha)⟩
  ·intro x hx;rw[List.mem_append,List.mem_singleton] at hx;rcases hx with hx| rfl
   ·exact h.part x hx
   ·exact aP4 hs.part hn
  ·intro x hx;rw[List.mem_append,List.mem_singleton] at hx;rcases hx with hx| rfl
   ·exact h.type x hx
   ·simpa[hsc] using hk
  ·intro j hj;rw[List.length_append,List.length_singleton] at hj;by_cases e:j<W.st.length
   ·rw[aFY _ _ (by have:=h.len;omega)];exact h.wlen j e
   ·have e2:j=W.wy.length:=by have:=h.len;omega
    subst e2;rw[aLL,List.length_append,List.length_singleton];have:=hs.wlen;have:=h.len;omega
  ·intro j hj;rw[List.length_append,List.length_singleton] at hj;by_cases e:j<W.st.length
   ·rw[aFY _ _ (by have:=h.len;omega)];exact h.wsz j e
   ·have e2:j=W.wy.length:=by have:=h.len;omega
    subst e2;rw[aLL];exact hsz
 ·refine⟨h.len,h.nd,h.part,h.type,h.wlen,h.wsz,?_,?_⟩
  ·show(if W.bad.length=0 then way++[f.name] else W.bad).length<=W.st.length
   split
   ·rw[List.length_append,List.length_singleton];have:=hs.wlen;omega
   ·exact h.blen
  ·show∀t∈ (if W.bad.length=0 then way++[f.name] else W.bad),_
   split
   ·exact hsz
   ·exact h.bsz
theorem Wk.fld_mono(ps:List Pt)(s:Sta)(way:List ByteArray)(W:Wk)(f:F):W.st<+:(W.fld ps s way f).st:=by
 unfold Wk.fld;split
 ·exact List.prefix_refl _
 split
 ·split
  ·exact List.prefix_refl _
  split
  ·exact List.prefix_refl _
  ·exact List.prefix_append _ _
 ·exact List.prefix_refl _
theorem Wk.flds_mono(ps:List Pt)(s:Sta)(way:List ByteArray)(fs:List F)(W:Wk):∀k,W.st<+:(W.flds ps s way fs k).st
 |0=>List.prefix_refl _
 |k+1=>(Wk.flds_mono ps s way fs W k).trans (Wk.fld_mono ps s way _ _)
theorem aSK{all:Pt}(h:okP all=true){k l:Nat}(hk:k<all.types.length)(hl:l<(tth all.types k).fields.length):(decide (0<=aAR all (fth (tth all.types k).fields l).of)||aAV (fth (tth all.types k).fields l).of)=true:=by
 have h1:=aEI h hk;unfold aAG at h1;by_cases a:aAO (tth all.types k)=false
 ·rw[if_pos a] at h1;omega
 rw[if_neg a] at h1;by_cases b:aCH all.types k (tth all.types k)=true
 ·rw[if_pos b] at h1;omega
 rw[if_neg b] at h1;by_cases c:aBY all (tth all.types k).fields (tth all.types k).fields.length=false
 ·rw[if_pos c] at h1;omega
 have c2:aBY all (tth all.types k).fields (tth all.types k).fields.length=true:=by simpa using c
 have:=(List.all_eq_true.1 c2) l (by simpa using hl)
 exact this
theorem WkOk.flds{ps:List Pt}{all:Pt}(ho:okP all=true){W:Wk}(h:WkOk ps all W){s:Sta}{way:List ByteArray}{i:Nat}(hs:WkIn ps all s way i)(hi:i<W.st.length){t:Nat}(ht:t<all.types.length):∀k,k<=(tth all.types t).fields.length->WkOk ps all (W.flds ps s way (tth all.types t).fields k)
 |0,_=>h
 |k+1,hk=>by
  refine(WkOk.flds ho h hs hi ht k (by omega)).fld hs ?_ (aSK ho ht (by omega)) ?_
  ·have:=(Wk.flds_mono ps s way (tth all.types t).fields W k).length_le;omega
  ·have h0:=(aKE all ho).1;have e1:szP all=all.name.size+(all.types.length+aB1 all.types all.types.length):=rfl;have h1:=aFK all.types t all.types.length ht;have e2:szT (tth all.types t)=(tth all.types t).name.size+(tth all.types t).key.size+((tth all.types t).fields.length+aBE (tth all.types t).fields (tth all.types t).fields.length):=rfl;have h2:=aGS (tth all.types t).fields k (tth all.types t).fields.length (by omega)
   have h3:szF (fth (tth all.types t).fields k)=(fth (tth all.types t).fields k).name.size+(fth (tth all.types t).fields k).of.size+((fth (tth all.types t).fields k).needs.length+_):=rfl;omega
theorem WkOk.in{ps:List Pt}{all:Pt}{W:Wk}(h:WkOk ps all W){i:Nat}(hi:i<W.st.length):WkIn ps all (sta W.st i) (wth W.wy i) i:=⟨h.part _ (aGH hi),h.wlen i hi,h.wsz i hi⟩
theorem WkOk.turn{ps:List Pt}{all:Pt}(ho:okP all=true){W:Wk}(h:WkOk ps all W){i:Nat}(hi:i<W.st.length):WkOk ps all (W.turn ps all i):=by
 obtain⟨k,e,h1,h2⟩:=aC8 (h.type _ (aGH hi));have ht:=aDT e;unfold Wk.turn;rw[ht];exact WkOk.flds ho h (h.in hi) hi h1 _ (Nat.le_refl _)
theorem aSH{p:Pt}(h:okP p=true):aAR p qry=0:=by
 have h1:aB5 p=true:=by simp only[okP,Bool.and_eq_true] at h;exact h.1.1.2
 simp only[aB5,isT,Bool.and_eq_true,decide_eq_true_eq,beq_iff_eq] at h1;exact aAX (k:=0) (by intro i hi;omega) (by simp only[h1.1.2,beq_iff_eq];simp[qry,ByteArray.toList_eq]) h1.1.1
theorem aOB{ps:List Pt}{all:Pt}(ho:okP all=true)(hp:0<ps.length):∀n,(∀i,i<n->i<(wkTo ps all i).st.length)->WkOk ps all (wkTo ps all n)
 |0,_=>by
  refine⟨rfl,by simp[wkTo],?_,?_,?_,?_,Nat.zero_le _,?_⟩
  ·intro s hs;simp[wkTo] at hs;subst hs;exact hp
  ·intro s hs;simp[wkTo] at hs;subst hs;rw[aSH ho];omega
  ·intro i hi;simp only[wkTo,List.length_singleton] at hi;have:i=0:=by omega
   subst this;exact Nat.le_refl _
  ·intro i hi;simp only[wkTo,List.length_singleton] at hi;have:i=0:=by omega
   subst this;intro t ht;cases ht
  ·intro t ht;cases ht
 |n+1,h=>(aOB ho hp n fun i hi=>h i (by omega)).turn ho (h n (by omega))
theorem aRC{ps:List Pt}{all:Pt}(ho:okP all=true)(hp:0<ps.length)(h4:ps.length<=4):wkN ps all<30∧(wkE ps all).st.length<=wkN ps all∧(∀i,i<wkN ps all->i<(wkTo ps all i).st.length):=by
 have h5:=(aEB ho).2;have hx:0<=aA9 (fun n=>decide ((wkTo ps all n).st.length<=n)) 30:=by
  rcases aA8 (fun n=>decide ((wkTo ps all n).st.length<=n)) 30 with⟨-,h2⟩| ⟨k,e,-⟩
  ·have h3:∀i,i<30->i<(wkTo ps all i).st.length:=fun i hi=>by have:=h2 i hi;simp at this;omega
   have h6:=(aOB ho hp 29 fun i hi=>h3 i (by omega)).few h4 h5
   have:=h3 29 (by omega)
   omega
  ·rw[e];omega
 obtain⟨h1,h2,h3⟩:=aHN hx;have h2':(wkTo ps all (aA9 (fun n=>decide ((wkTo ps all n).st.length<=n)) 30).toNat).st.length<=(aA9 (fun n=>decide ((wkTo ps all n).st.length<=n)) 30).toNat:=by simpa using h2
 exact⟨h1,h2',fun i hi=>by have:=h3 i hi;simp at this;exact this⟩
theorem aVL{ps:List Pt}{all:Pt}(ho:okP all=true)(hp:0<ps.length)(h4:ps.length<=4):WkOk ps all (wkE ps all):=aOB ho hp _ (aRC ho hp h4).2.2
theorem Wk.fld_bad(ps:List Pt)(s:Sta)(way:List ByteArray)(W:Wk)(f:F)(h:W.bad.length≠0):(W.fld ps s way f).bad=W.bad:=by
 unfold Wk.fld;split
 ·rfl
 split
 ·split
  ·rfl
  split
  ·rfl
  ·rfl
 ·simp[h]
theorem Wk.flds_bad(ps:List Pt)(s:Sta)(way:List ByteArray)(fs:List F)(W:Wk)(k:Nat)(h:(W.flds ps s way fs k).bad.length≠0):∀d,(W.flds ps s way fs (k+d)).bad=(W.flds ps s way fs k).bad
 |0=>rfl
 |d+1=>by
  have ih:=Wk.flds_bad ps s way fs W k h d;show((W.flds ps s way fs (k+d)).fld ps s way _).bad=_;rw[Wk.fld_bad _ _ _ _ _ (by rw[ih];exact h),ih]
theorem aPF(ps:List Pt)(all:Pt)(n:Nat)(h:(wkTo ps all n).bad.length≠0):∀d,(wkTo ps all (n+d)).bad=(wkTo ps all n).bad
 |0=>rfl
 |d+1=>by
  have ih:=aPF ps all n h d;have h2:=Wk.flds_bad ps (sta (wkTo ps all (n+d)).st (n+d)) (wth (wkTo ps all (n+d)).wy (n+d)) (aA5 all (sta (wkTo ps all (n+d)).st (n+d)).type).fields (wkTo ps all (n+d)) 0 (by show(wkTo ps all (n+d)).bad.length≠0;rw[ih];exact h) (aA5 all (sta (wkTo ps all (n+d)).st (n+d)).type).fields.length
  rw[Nat.zero_add] at h2;show(Wk.flds _ _ _ _ _ _).bad=_;exact h2.trans ih
end Go.Proofs.YtcebpkeiaiiphaaGreatDoor
namespace Go.Proofs.YtcebpkeiaiiphaaGreatDoor
open Go.RowKit Go.Maps Go.MapKept
def OffP(base N m:Nat)(sv:Value)(w:World)(b:Nat):Prop:=base<=b∧b<w.heap.size∧sv.ownBlock≠some b∧b≠N∧b≠m
structure RcB(base N m:Nat)(c0 c1 c2:Value)(st:List Sta)(sv:Value)(w:World):Prop where
 box:w.heap[N]?=some (.cells #[c0,c1,c2,sv,.map (some m)] 66 (0,0))
 srow:w.ownsRow base 72 2 sv st.length (aE0 st)
 mS:sv.ownBlock≠some N
 mM:sv.ownBlock≠some m
 nM:N≠m
 bN:base<=N
 bm:base<=m
 lm:m<w.heap.size
def skS(s:Sta):Value:=sk s.part s.type
structure aV4(base N m:Nat)(sv:Value)(G:Value->Option Value)(st:List Sta)(wy:List (List ByteArray))(w:World):Prop where
 way:∀i,i<st.length->∃a c,G (skS (sta st i))=some (.slice a (wth wy i).length c)∧Strs w (OffP base N m sv w) (wth wy i) a
 none:∀x:Sta,x∉ st->G (skS x)=none
structure RcI(base N m:Nat)(c0 c1 c2:Value)(st:List Sta)(wy:List (List ByteArray))(sv:Value)(w:World):Prop where
 b:RcB base N m c0 c1 c2 st sv w
 len:wy.length=st.length
 map:∃G,aDI w SKs m G∧aV4 base N m sv G st wy w
structure ChgP(N m:Nat)(sv:Value)(w w':World):Prop where
 os:w'.os=w.os
 tape:w'.tape=w.tape
 output:w'.output=w.output
 size:w.heap.size<=w'.heap.size
 block:∀b,b<w.heap.size->b≠N->b≠m->sv.ownBlock≠some b->w'.heap[b]?=w.heap[b]?
theorem ChgP.of_below{N m:Nat}{sv:Value}{w w':World}(h:Below w.heap.size w w'):ChgP N m sv w w':=⟨h.os,h.tape,h.output,h.size,fun b hb _ _ _=>h.block b hb⟩
theorem aRP{x y:Sta}(h:skS x=skS y):x=y:=by
 obtain⟨h1,h2⟩:=aV0 h;exact aQT (by omega) h2
variable {base N m:Nat} {c0 c1 c2 sv:Value} {st:List Sta} {wy:List (List ByteArray)} {w:World}
theorem RcB.lN(h:RcB base N m c0 c1 c2 st sv w):N<w.heap.size:=(Array.getElem?_eq_some_iff.1 h.box).1
theorem RcB.keep{W:World}(h:RcB base N m c0 c1 c2 st sv w)(hb:Below w.heap.size w W):RcB base N m c0 c1 c2 st sv W:=
 ⟨(hb.block N h.lN).trans h.box,aAE h.srow hb,h.mS,h.mM,h.nM,h.bN,h.bm,Nat.lt_of_lt_of_le h.lm hb.size⟩
theorem RcI.keep{W:World}(h:RcI base N m c0 c1 c2 st wy sv w)(hb:Below w.heap.size w W):RcI base N m c0 c1 c2 st wy sv W:=by
 obtain⟨G,hO,hG⟩:=h.map;refine⟨h.b.keep hb,h.len,G,hO.of_block (hb.block m h.b.lm),fun i hi=>?_,hG.none⟩;obtain⟨a,c,h1,h2⟩:=hG.way i hi;exact⟨a,c,h1,(h2.mono fun b hb'=>hb.block b hb'.2.1).sub fun b hb'=>⟨hb'.1,Nat.lt_of_lt_of_le hb'.2.1 hb.size,hb'.2.2⟩⟩
theorem RcB.cells(h:RcB base N m c0 c1 c2 st sv w):(w.cell? ⟨N,0,none⟩=some c0∧w.cell? ⟨N,1,none⟩=some c1∧w.cell? ⟨N,2,none⟩=some c2)∧w.cell? ⟨N,3,none⟩=some sv∧w.cell? ⟨N,4,none⟩=some (.map (some m)):=
 ⟨⟨(aA1 h.box 0 (by simp)).1,(aA1 h.box 1 (by simp)).1,(aA1 h.box 2 (by simp)).1⟩,(aA1 h.box 3 (by simp)).1,(aA1 h.box 4 (by simp)).1⟩
theorem aTT(w:World):(zeroValue 33).run Tryz.prog w=.ok (.slice none 0 0) w:=by kernel_rfl
theorem RcI.look(h:RcI base N m c0 c1 c2 st wy sv w)(x:Sta):(x∈ st->∃a c wa,(∃i,i<st.length∧sta st i=x∧wth wy i=wa)∧Strs w (OffP base N m sv w) wa a∧(∀cm,(Instr.lookup 64 (.map (some m)) (.agg #[.int .i64 x.part,.string x.type]) cm).run Tryz.prog w=.ok (if cm then .tuple #[.slice a wa.length c,.bool true] else .slice a wa.length c) w))∧
  (x∉ st->(Instr.lookup 64 (.map (some m)) (.agg #[.int .i64 x.part,.string x.type]) true).run Tryz.prog w=.ok (.tuple #[.slice none 0 0,.bool false]) w):=by
 obtain⟨G,hO,hG⟩:=h.map;have hl:=fun cm=>hO.lookG cm (aV8 w) Tryz.underlying64 (aTT w) (x:=skS x) ⟨_,_,rfl⟩;refine⟨fun hx=>?_,fun hx=>?_⟩
 ·obtain⟨i,hi,e⟩:=List.getElem_of_mem hx;have e2:sta st i=x:=by rw[<-e];simp[sta,List.getD_eq_getElem?_getD,hi]
  obtain⟨a,c,h1,h2⟩:=hG.way i hi;rw[e2] at h1;refine⟨a,c,wth wy i,⟨i,hi,e2,rfl⟩,h2,fun cm=>?_⟩;have:=hl cm;rw[h1] at this;exact this
 ·have:=hl true;rw[hG.none x hx] at this;exact this
theorem RcI.come{x:Sta}{way:List ByteArray}{a:Option Addr}{c:Nat}(h:RcI base N m c0 c1 c2 st wy sv w)(hx:x∉ st)(hS:Strs w (OffP base N m sv w) way a)
  {wT:World} {G G2:Value->Option Value} (hG:aDI w SKs m G∧aV4 base N m sv G st wy w) (hO2:aDI wT SKs m G2) (h1:G2 (skS x)=some (.slice a way.length c)) (h2:∀y,y≠skS x->G2 y=G y) (hgT:w.grownBy wT (some m))
  {W wF:World} (hb:Below wT.heap.size wT W) {sv':Value} (ho:wF.ownsRow base 72 2 sv' (st.length+1) (aE0 st++aLA x)) (hg:W.grownBy wF sv.ownBlock) (hn:∀g,sv'.ownBlock=some g->sv.ownBlock=some g∨g=W.heap.size):
  (wF.cell? ⟨N,3,none⟩=some sv∧wF.frozen? ⟨N,3,none⟩=false)∧RcI base N m c0 c1 c2 (st++[x]) (wy++[way]) sv' (wF.setCell ⟨N,3,none⟩ sv')∧ChgP N m sv w (wF.setCell ⟨N,3,none⟩ sv')∧(∀g,sv'.ownBlock=some g->sv.ownBlock=some g∨w.heap.size<=g):=by
 have s1:=hgT.size;have s2:=hb.size;have s3:=hg.size;have lN:=h.b.lN;have lm:=h.b.lm;have nN:sv'.ownBlock≠some N:=fun e=>by
  rcases hn N e with e1| e1
  ·exact h.b.mS e1
  ·omega
 have nm:sv'.ownBlock≠some m:=fun e=>by
  rcases hn m e with e1| e1
  ·exact h.b.mM e1
  ·omega
 have hblk:∀b,b<w.heap.size->b≠m->sv.ownBlock≠some b->wF.heap[b]?=w.heap[b]?:=fun b hb1 hb2 hb3=>(hg.block b (by omega) fun e=>hb3 e.symm).trans ((hb.block b (by omega)).trans (hgT.block b hb1 fun e=>hb2 (Option.some.inj e)))
 have hset:∀b,b≠N->(wF.setCell ⟨N,3,none⟩ sv').heap[b]?=wF.heap[b]?:=fun b hb=>Below.heap_setCell _ _ _ _ hb;have hbN:=(hblk N lN h.b.nM h.b.mS).trans h.b.box;have hst:∀(l:List ByteArray) (a:Option Addr),Strs w (OffP base N m sv w) l a->Strs (wF.setCell ⟨N,3,none⟩ sv') (OffP base N m sv' (wF.setCell ⟨N,3,none⟩ sv')) l a:=fun l a hS=>(hS.mono fun b hb'=>(hset b hb'.2.2.2.1).trans (hblk b hb'.2.1 hb'.2.2.2.2 hb'.2.2.1)).sub fun b hb'=>⟨hb'.1,by rw[aC1];have:=hb'.2.1;omega,fun e=>by
  rcases hn b e with e1| e1
  ·exact hb'.2.2.1 e1
  ·have:=hb'.2.1;omega,hb'.2.2.2⟩
 have hmm:(wF.setCell ⟨N,3,none⟩ sv').heap[m]?=wT.heap[m]?:=(hset m fun e=>h.b.nM e.symm).trans ((hg.block m (by omega) fun e=>h.b.mM e.symm).trans (hb.block m (by omega)))
 refine⟨⟨(aA1 hbN 3 (by simp)).1,(aA1 hbN 3 (by simp)).2⟩,⟨⟨by simpa using aAC hbN 3 sv',?_,nN,nm,h.b.nM,h.b.bN,h.b.bm,by rw[aC1];omega⟩,by simp[h.len],G2,hO2.of_block hmm,fun i hi=>?_,fun y hy=>?_⟩,
  ⟨hg.os.trans (hb.os.trans hgT.os),hg.tape.trans (hb.tape.trans hgT.tape),hg.output.trans (hb.output.trans hgT.output),by rw[aC1];omega,fun b hb1 hb2 hb3 hb4=>(hset b hb2).trans (hblk b hb1 hb3 hb4)⟩,fun g e=>(hn g e).imp id fun e=>by omega⟩
 ·rw[aJM,List.length_append,List.length_singleton];exact aB2 ho fun g hg'=>Below.heap_setCell _ _ _ _ fun e=>nN (by have e:g=N:=e;rw[<-e];exact hg')
 ·rw[List.length_append,List.length_singleton] at hi;by_cases e:i<st.length
  ·obtain⟨a',c',q1,q2⟩:=hG.2.way i e;rw[aPM _ _ e,aFY _ _ (by rw[h.len];exact e)]
   refine⟨a',c',(h2 _ fun e2=>hx ?_).trans q1,hst _ _ q2⟩;rw[<-aRP e2];exact aGH e
  ·have e2:i=st.length:=by omega
   subst e2;rw[aUQ,<-h.len,aLL];exact⟨a,c,h1,hst _ _ hS⟩
 ·rw[List.mem_append,List.mem_singleton,not_or] at hy;rw[h2 _ fun e=>hy.2 (aRP e)];exact hG.2.none y hy.1
end Go.Proofs.YtcebpkeiaiiphaaGreatDoor
namespace Go.Proofs.YtcebpkeiaiiphaaGreatDoor
open Go.RowKit Go.Maps
def OffR(base M:Nat)(sv wv:Value)(w:World)(b:Nat):Prop:=base<=b∧b<w.heap.size∧sv.ownBlock≠some b∧wv.ownBlock≠some b∧b≠M
structure WkM(base M:Nat)(ss:List Sta)(wy:List (List ByteArray))(bad:List ByteArray)(sv wv bv:Value)(WV:List Value)(w:World):Prop where
 box:w.heap[M]?=some (.cells #[sv,wv,bv] 56 (0,0))
 srow:w.ownsRow base 72 2 sv ss.length (aE0 ss)
 wrow:w.ownsRow base 33 1 wv wy.length WV
 wlen:WV.length=wy.length
 apart:∀g,sv.ownBlock=some g->wv.ownBlock≠some g
 mS:sv.ownBlock≠some M
 mW:wv.ownBlock≠some M
 mB:base<=M
 way:∀i,i<wy.length->∃a c,WV[i]?=some (.slice a (wth wy i).length c)∧Strs w (OffR base M sv wv w) (wth wy i) a
 bads:∃a c,bv=.slice a bad.length c∧Strs w (OffR base M sv wv w) bad a
variable {base M:Nat} {ss:List Sta} {wy:List (List ByteArray)} {bad:List ByteArray} {sv wv bv:Value} {WV:List Value} {w:World}
theorem WkM.mlt(h:WkM base M ss wy bad sv wv bv WV w):M<w.heap.size:=(Array.getElem?_eq_some_iff.1 h.box).1
theorem WkM.keep{W:World}(h:WkM base M ss wy bad sv wv bv WV w)(hb:Below w.heap.size w W):WkM base M ss wy bad sv wv bv WV W:=by
 have hs:=hb.size;have hst:∀(l:List ByteArray) (a:Option Addr),Strs w (OffR base M sv wv w) l a->Strs W (OffR base M sv wv W) l a:=fun l a hS=>(hS.mono fun b hb'=>hb.block b hb'.2.1).sub fun b hb'=>⟨hb'.1,Nat.lt_of_lt_of_le hb'.2.1 hs,hb'.2.2⟩;refine⟨(hb.block M h.mlt).trans h.box,aAE h.srow hb,aAE h.wrow hb,h.wlen,h.apart,h.mS,h.mW,h.mB,fun i hi=>?_,?_⟩
 ·obtain⟨a,c,h1,h2⟩:=h.way i hi;exact⟨a,c,h1,hst _ _ h2⟩
 ·obtain⟨a,c,h1,h2⟩:=h.bads;exact⟨a,c,h1,hst _ _ h2⟩
theorem WkM.pushS{wF:World}(h:WkM base M ss wy bad sv wv bv WV w){x:Sta}{sv':Value}(ho:wF.ownsRow base 72 2 sv' (ss.length+1) (aE0 ss++aLA x))(hg:w.grownBy wF sv.ownBlock)(hn:∀g,sv'.ownBlock=some g->sv.ownBlock=some g∨g=w.heap.size):
  WkM base M (ss++[x]) wy bad sv' wv bv WV (wF.setCell ⟨M,0,none⟩ sv'):=by
 have hs:=hg.size;have hml:=h.mlt;have hM:sv'.ownBlock≠some M:=fun e=>by
  rcases hn M e with h1| h1
  ·exact h.mS h1
  ·omega
 have hw:∀g,wv.ownBlock=some g->g<w.heap.size:=fun g hg'=>(h.wrow.lt g hg').2;have hblk:∀b,b<w.heap.size->sv.ownBlock≠some b->b≠M->(wF.setCell ⟨M,0,none⟩ sv').heap[b]?=w.heap[b]?:=fun b h1 h2 h3=>(Below.heap_setCell _ _ _ _ h3).trans (hg.block b h1 fun e=>h2 e.symm);have hst:∀(l:List ByteArray) (a:Option Addr),Strs w (OffR base M sv wv w) l a->Strs (wF.setCell ⟨M,0,none⟩ sv') (OffR base M sv' wv (wF.setCell ⟨M,0,none⟩ sv')) l a:=fun l a hS=>(hS.mono fun b hb=>hblk b hb.2.1 hb.2.2.1 hb.2.2.2.2).sub fun b hb=>⟨hb.1,by rw[aC1];exact Nat.lt_of_lt_of_le hb.2.1 hs,fun e=>by
  rcases hn b e with h1| h1
  ·exact hb.2.2.1 h1
  ·have:=hb.2.1;omega,hb.2.2.2⟩
 refine⟨?_,?_,?_,h.wlen,fun g hg'=>?_,hM,h.mW,h.mB,fun i hi=>?_,?_⟩
 ·have h1:=(hg.block M hml fun e=>h.mS e.symm).trans h.box;simpa using aAC h1 0 sv'
 ·rw[aJM,List.length_append,List.length_singleton];exact aB2 ho fun g hg'=>Below.heap_setCell _ _ _ _ fun e=>hM (by have e:g=M:=e;rw[<-e];exact hg')
 ·exact aB2 h.wrow fun g hg'=>hblk g (hw g hg') (fun e=>h.apart g e hg') fun e=>h.mW (e▸hg')
 ·rcases hn g hg' with h1| h1
  ·exact h.apart g h1
  ·exact fun e=>by have:=hw g e;omega
 ·obtain⟨a,c,h1,h2⟩:=h.way i hi;exact⟨a,c,h1,hst _ _ h2⟩
 ·obtain⟨a,c,h1,h2⟩:=h.bads;exact⟨a,c,h1,hst _ _ h2⟩
theorem WkM.pushW{wF:World}(h:WkM base M ss wy bad sv wv bv WV w){way:List ByteArray}{a:Option Addr}{c:Nat}(hS:Strs w (OffR base M sv wv w) way a){wv':Value}(ho:wF.ownsRow base 33 1 wv' (wy.length+1) (WV++[.slice a way.length c]))(hg:w.grownBy wF wv.ownBlock)(hn:∀g,wv'.ownBlock=some g->wv.ownBlock=some g∨g=w.heap.size):
  WkM base M ss (wy++[way]) bad sv wv' bv (WV++[.slice a way.length c]) (wF.setCell ⟨M,1,none⟩ wv'):=by
 have hs:=hg.size;have hml:=h.mlt;have hM:wv'.ownBlock≠some M:=fun e=>by
  rcases hn M e with h1| h1
  ·exact h.mW h1
  ·omega
 have hw:∀g,sv.ownBlock=some g->g<w.heap.size:=fun g hg'=>(h.srow.lt g hg').2;have hblk:∀b,b<w.heap.size->wv.ownBlock≠some b->b≠M->(wF.setCell ⟨M,1,none⟩ wv').heap[b]?=w.heap[b]?:=fun b h1 h2 h3=>(Below.heap_setCell _ _ _ _ h3).trans (hg.block b h1 fun e=>h2 e.symm);have hst:∀(l:List ByteArray) (a:Option Addr),Strs w (OffR base M sv wv w) l a->Strs (wF.setCell ⟨M,1,none⟩ wv') (OffR base M sv wv' (wF.setCell ⟨M,1,none⟩ wv')) l a:=fun l a hS=>(hS.mono fun b hb=>hblk b hb.2.1 hb.2.2.2.1 hb.2.2.2.2).sub fun b hb=>⟨hb.1,by rw[aC1];exact Nat.lt_of_lt_of_le hb.2.1 hs,hb.2.2.1,fun e=>by
  rcases hn b e with h1| h1
  ·exact hb.2.2.2.1 h1
  ·have:=hb.2.1;omega,hb.2.2.2.2⟩
 refine⟨?_,?_,?_,by simp[h.wlen],fun g hg'=>?_,h.mS,hM,h.mB,fun i hi=>?_,?_⟩
 ·have h1:=(hg.block M hml fun e=>h.mW e.symm).trans h.box;simpa using aAC h1 1 wv'
 ·exact aB2 h.srow fun g hg'=>hblk g (hw g hg') (fun e=>h.apart g hg' e) fun e=>h.mS (e▸hg')
 ·rw[List.length_append,List.length_singleton];exact aB2 ho fun g hg'=>Below.heap_setCell _ _ _ _ fun e=>hM (by have e:g=M:=e;rw[<-e];exact hg')
 ·intro e;rcases hn g e with h1| h1
  ·exact h.apart g hg' h1
  ·have:=hw g hg';omega
 ·rw[List.length_append,List.length_singleton] at hi;by_cases e:i<wy.length
  ·obtain⟨a,c,h1,h2⟩:=h.way i e;rw[aFY _ _ e];exact⟨a,c,by rw[List.getElem?_append_left (by have:=h.wlen;omega)];exact h1,hst _ _ h2⟩
  ·have e2:i=wy.length:=by omega
   subst e2;rw[aLL];exact⟨a,c,by rw[<-h.wlen];simp,hst _ _ hS⟩
 ·obtain⟨a,c,h1,h2⟩:=h.bads;exact⟨a,c,h1,hst _ _ h2⟩
theorem WkM.setB(h:WkM base M ss wy bad sv wv bv WV w){way:List ByteArray}{a:Option Addr}{c:Nat}(hS:Strs w (OffR base M sv wv w) way a):
  WkM base M ss wy way sv wv (.slice a way.length c) WV (w.setCell ⟨M,2,none⟩ (.slice a way.length c)):=by
 have hblk:∀b,b≠M->(w.setCell ⟨M,2,none⟩ (.slice a way.length c)).heap[b]?=w.heap[b]?:=fun b h3=>Below.heap_setCell _ _ _ _ h3;have hst:∀(l:List ByteArray) (a':Option Addr),Strs w (OffR base M sv wv w) l a'->Strs (w.setCell ⟨M,2,none⟩ (.slice a way.length c)) (OffR base M sv wv (w.setCell ⟨M,2,none⟩ (.slice a way.length c))) l a':=fun l a' hS=>(hS.mono fun b hb=>hblk b hb.2.2.2.2).sub fun b hb=>⟨hb.1,by rw[aC1];exact hb.2.1,hb.2.2⟩
 refine⟨by simpa using aAC h.box 2 (.slice a way.length c),aB2 h.srow fun g hg'=>hblk g fun e=>h.mS (e▸hg'),aB2 h.wrow fun g hg'=>hblk g fun e=>h.mW (e▸hg'),h.wlen,h.apart,h.mS,h.mW,h.mB,fun i hi=>?_,a,c,rfl,hst _ _ hS⟩
 obtain⟨a,c,h1,h2⟩:=h.way i hi;exact⟨a,c,h1,hst _ _ h2⟩
theorem WkM.stAt(h:WkM base M ss wy bad sv wv bv WV w)(i:Nat)(hi:i<ss.length):∃g cap,sv=.slice (some ⟨g,0,none⟩) ss.length cap∧ss.length<=cap∧w.cell? ⟨g,i*2,none⟩=some (.int .i64 (sta ss i).part)∧w.cell? ⟨g,i*2+1,none⟩=some (.string (sta ss i).type):=by
 rcases h.srow.2 with⟨e,e0⟩| ⟨g,cap,cur,e,hb,hh,hc,hm,hl,ht⟩
 ·have:ss=[]:=by
   cases ss with
   |nil=>rfl
   |cons x r=>simp[aE0,aLA] at e0
  subst this;simp at hi
 ·have hsr:=h.srow;rw[e] at hsr;obtain⟨-,-,hS⟩:=aJY hsr;obtain⟨b,off,e2,-,c0,c1⟩:=hS.at i hi;simp only[Option.some.injEq,Addr.mk.injEq,and_true] at e2;obtain⟨rfl,rfl⟩:=e2;rw[Nat.zero_add] at c0 c1;exact⟨g,cap,e,hc,c0,c1⟩
theorem WkM.wyAt(h:WkM base M ss wy bad sv wv bv WV w)(i:Nat)(hi:i<wy.length):∃g cap a c,wv=.slice (some ⟨g,0,none⟩) wy.length cap∧wy.length<=cap∧w.cell? ⟨g,i,none⟩=some (.slice a (wth wy i).length c)∧Strs w (OffR base M sv wv w) (wth wy i) a:=by
 obtain⟨a,c,h1,h2⟩:=h.way i hi;rcases h.wrow.2 with⟨e,e0⟩| ⟨g,cap,cur,e,hb,hh,hc,hm,hl,ht⟩
 ·have:=h.wlen;rw[e0] at this;simp at this;omega
 ·refine⟨g,cap,a,c,e,hc,?_,h2⟩;have hw:=h.wrow;rw[e] at hw;rw[hw.cellAt i (by omega)]
  exact h1
structure FrmR(base N:Nat)(w X:World)(M:Nat)(sv wv:Value)(W:World):Prop where
 old:Below base w W
 size:X.heap.size<=W.heap.size
 blk:∀b,N<=b->b<X.heap.size->W.heap[b]?=X.heap[b]?
 rS:∀g,sv.ownBlock=some g->base<=g∧(g<N∨X.heap.size<=g)
 rW:∀g,wv.ownBlock=some g->base<=g∧(g<N∨X.heap.size<=g)
 mN:M<N
 mB:base<=M
 nX:N<=X.heap.size
variable {base N M:Nat} {w X W:World} {sv wv:Value}
theorem FrmR.keep{W':World}(h:FrmR base N w X M sv wv W)(hb:Below W.heap.size W W'):FrmR base N w X M sv wv W':=by
 have h1:=h.mN;have h2:=h.mB;have h3:=h.nX;have h4:=h.size;exact⟨h.old.trans (hb.mono (by omega)),Nat.le_trans h.size hb.size,fun b hb1 hb2=>(hb.block b (by omega)).trans (h.blk b hb1 hb2),h.rS,h.rW,h1,h2,h3⟩
theorem FrmR.setM(h:FrmR base N w X M sv wv W)(j:Nat)(v:Value):FrmR base N w X M sv wv (W.setCell ⟨M,j,none⟩ v):=
 ⟨h.old.setCell (p:=⟨M,j,none⟩) h.mB v,by rw[aC1];exact h.size,fun b hb1 hb2=>(Below.heap_setCell _ _ _ _ (by have:=h.mN;show b≠M;omega)).trans (h.blk b hb1 hb2),h.rS,h.rW,h.mN,h.mB,h.nX⟩
theorem FrmR.grS{wF:World}{sv':Value}(h:FrmR base N w X M sv wv W)(hg:W.grownBy wF sv.ownBlock)(hn:∀g,sv'.ownBlock=some g->sv.ownBlock=some g∨g=W.heap.size):FrmR base N w X M sv' wv wF:=by
 have h1:=h.mN;have h2:=h.mB;have h3:=h.nX;have h4:=h.size;refine⟨h.old.grown hg (by omega) fun b hb=>(h.rS b hb).1,Nat.le_trans h.size hg.size,fun b hb1 hb2=>(hg.block b (by omega) fun e=>?_).trans (h.blk b hb1 hb2),fun g e=>?_,h.rW,h1,h2,h3⟩
 ·have:=(h.rS b e.symm).2;omega
 ·rcases hn g e with e1| e1
  ·exact h.rS g e1
  ·omega
theorem FrmR.grW{wF:World}{wv':Value}(h:FrmR base N w X M sv wv W)(hg:W.grownBy wF wv.ownBlock)(hn:∀g,wv'.ownBlock=some g->wv.ownBlock=some g∨g=W.heap.size):FrmR base N w X M sv wv' wF:=by
 have h1:=h.mN;have h2:=h.mB;have h3:=h.nX;have h4:=h.size;refine⟨h.old.grown hg (by omega) fun b hb=>(h.rW b hb).1,Nat.le_trans h.size hg.size,fun b hb1 hb2=>(hg.block b (by omega) fun e=>?_).trans (h.blk b hb1 hb2),h.rS,fun g e=>?_,h1,h2,h3⟩
 ·have:=(h.rW b e.symm).2;omega
 ·rcases hn g e with e1| e1
  ·exact h.rW g e1
  ·omega
section
variable {ss:List Sta} {wy:List (List ByteArray)} {bad:List ByteArray} {bv:Value} {WV:List Value}
theorem aVC{wF:World}(hk:WkM base M ss wy bad sv wv bv WV W)(h:FrmR base N w X M sv wv W){x:Sta}{sv':Value}(ho:wF.ownsRow base 72 2 sv' (ss.length+1) (aE0 ss++aLA x))(hg:W.grownBy wF sv.ownBlock)(hn:∀g,sv'.ownBlock=some g->sv.ownBlock=some g∨g=W.heap.size):
  (wF.cell? ⟨M,0,none⟩=some sv∧wF.frozen? ⟨M,0,none⟩=false)∧WkM base M (ss++[x]) wy bad sv' wv bv WV (wF.setCell ⟨M,0,none⟩ sv')∧FrmR base N w X M sv' wv (wF.setCell ⟨M,0,none⟩ sv'):=by
 have h1:=(hg.block M hk.mlt fun e=>hk.mS e.symm).trans hk.box;exact⟨⟨(aA1 h1 0 (by simp)).1,(aA1 h1 0 (by simp)).2⟩,hk.pushS ho hg hn,(h.grS hg hn).setM 0 sv'⟩
theorem aUU{wF:World}(hk:WkM base M ss wy bad sv wv bv WV W)(h:FrmR base N w X M sv wv W){way:List ByteArray}{a:Option Addr}{c:Nat}(hS:Strs W (OffR base M sv wv W) way a){wv':Value}(ho:wF.ownsRow base 33 1 wv' (wy.length+1) (WV++[.slice a way.length c]))(hg:W.grownBy wF wv.ownBlock)(hn:∀g,wv'.ownBlock=some g->wv.ownBlock=some g∨g=W.heap.size):
  (wF.cell? ⟨M,1,none⟩=some wv∧wF.frozen? ⟨M,1,none⟩=false)∧WkM base M ss (wy++[way]) bad sv wv' bv (WV++[.slice a way.length c]) (wF.setCell ⟨M,1,none⟩ wv')∧FrmR base N w X M sv wv' (wF.setCell ⟨M,1,none⟩ wv'):=by
 have h1:=(hg.block M hk.mlt fun e=>hk.mW e.symm).trans hk.box;exact⟨⟨(aA1 h1 1 (by simp)).1,(aA1 h1 1 (by simp)).2⟩,hk.pushW hS ho hg hn,(h.grW hg hn).setM 1 wv'⟩
theorem WkM.cells(h:WkM base M ss wy bad sv wv bv WV W):W.cell? ⟨M,0,none⟩=some sv∧W.cell? ⟨M,1,none⟩=some wv∧W.cell? ⟨M,2,none⟩=some bv∧W.frozen? ⟨M,2,none⟩=false:=
 ⟨(aA1 h.box 0 (by simp)).1,(aA1 h.box 1 (by simp)).1,(aA1 h.box 2 (by simp)).1,(aA1 h.box 2 (by simp)).2⟩
end
theorem aGZ{w:World}{N:Nat}{T:TypeId}{a0 a1 a2:Value}(hb:w.heap[N]?=some (.cells #[a0,a1,a2] T (0,0)))(v0 v1 v2:Value):
  (((w.setCell ⟨N,0,none⟩ v0).setCell ⟨N,1,none⟩ v1).setCell ⟨N,2,none⟩ v2).heap[N]?=some (.cells #[v0,v1,v2] T (0,0)):=by
 simpa using aAC (aAC (aAC hb 0 v0) 1 v1) 2 v2
theorem Wk.fld_wy(ps:List Pt)(s:Sta)(way:List ByteArray)(K:Wk)(f:F):K.wy<+:(K.fld ps s way f).wy:=by
 unfold Wk.fld;split
 ·exact List.prefix_refl _
 split
 ·split
  ·exact List.prefix_refl _
  split
  ·exact List.prefix_refl _
  ·exact List.prefix_append _ _
 ·exact List.prefix_refl _
theorem Wk.flds_wy(ps:List Pt)(s:Sta)(way:List ByteArray)(fs:List F)(K:Wk):∀k,K.wy<+:(K.flds ps s way fs k).wy
 |0=>List.prefix_refl _
 |k+1=>(Wk.flds_wy ps s way fs K k).trans (Wk.fld_wy ps s way _ _)
theorem aKO{a b:List (List ByteArray)}(h:a<+:b){i:Nat}(hi:i<a.length):wth b i=wth a i:=by
 obtain⟨r,rfl⟩:=h;simp[wth,List.getD_eq_getElem?_getD,List.getElem?_append_left hi]
theorem aPU{a b:List Sta}(h:a<+:b){i:Nat}(hi:i<a.length):sta b i=sta a i:=by
 obtain⟨r,rfl⟩:=h;simp[sta,List.getD_eq_getElem?_getD,List.getElem?_append_left hi]
theorem aTZ:(Tryz.prog.info? 72).map (fun i=>(i.zero,i.size,i.bytes))=some (some (.agg #[.int .i64 0,.string ByteArray.empty]),2,24):=by kernel_rfl
theorem aVG:(Tryz.prog.info? 33).map (fun i=>(i.zero,i.size,i.bytes))=some (some (.slice none 0 0),1,24):=by kernel_rfl
theorem aRD:(Tryz.prog.info? 9).map (fun i=>(i.zero,i.size,i.bytes))=some (some (.string ByteArray.empty),1,16):=by kernel_rfl
end Go.Proofs.YtcebpkeiaiiphaaGreatDoor
namespace Go.Proofs.YtcebpkeiaiiphaaGreatDoor
open Go.RowKit Go.Maps Go.MapKept
def stC(st:List Sta)(x:Sta):List Sta:=if 0<=aCG st x then st else st++[x]
def wyC(st:List Sta)(wy:List (List ByteArray))(x:Sta)(way:List ByteArray):List (List ByteArray):=if 0<=aCG st x then wy else wy++[way]
def aLU(base N m:Nat)(c0 c1 c2:Value)(st:List Sta)(wy:List (List ByteArray))(sv:Value)(x:Sta)(way:List ByteArray)(w:World)(e:Ending)(w':World):Prop:=
 e=.returned (.tuple #[])∧∃sv',RcI base N m c0 c1 c2 (stC st x) (wyC st wy x way) sv' w'∧ChgP N m sv w w'∧∀g,sv'.ownBlock=some g->sv.ownBlock=some g∨w.heap.size<=g
theorem RcB.map{base N m:Nat}{c0 c1 c2 sv:Value}{st:List Sta}{w wT:World}(h:RcB base N m c0 c1 c2 st sv w)(hg:w.grownBy wT (some m)):RcB base N m c0 c1 c2 st sv wT:=
 ⟨(hg.block N h.lN fun e=>h.nM (Option.some.inj e)).trans h.box,aB2 h.srow fun g e=>hg.block g (h.srow.lt g e).2 fun e2=>h.mM (by rw[e,e2]),h.mS,h.mM,h.nM,h.bN,h.bm,Nat.lt_of_lt_of_le h.lm hg.size⟩
theorem ChgP.trans0{N m:Nat}{sv:Value}{w w1 w2:World}(h:Below w.heap.size w w1)(k:ChgP N m sv w1 w2):ChgP N m sv w w2:=
 ⟨k.os.trans h.os,k.tape.trans h.tape,k.output.trans h.output,Nat.le_trans h.size k.size,fun b h1 h2 h3 h4=>(k.block b (Nat.lt_of_lt_of_le h1 h.size) h2 h3 h4).trans (h.block b h1)⟩
set_option maxRecDepth 20000 in
set_option maxHeartbeats 1600000 in
theorem aOR(base N m:Nat)(c0 c1 c2:Value)(st:List Sta)(wy:List (List ByteArray))(sv:Value)(x:Sta)(way:List ByteArray)(a:Option Addr)(c:Nat)(w:World)(h:RcI base N m c0 c1 c2 st wy sv w)(hS:Strs w (OffP base N m sv w) way a)(hl:st.length<=1000):
  Calls Tryz.prog 54 #[.pointer (some ⟨N,0,none⟩),.agg #[.int .i64 x.part,.string x.type],.slice a way.length c] w (aLU base N m c0 c1 c2 st wy sv x way w):=by
 have hbN:=h.b.bN;have HBS:Hid (base<=w.heap.size):=aA0 (by have:=h.b.lN;omega)
 have HSI:=aA0 (aKH (ss:=st) (x:=x));have HSC:Hid (stC st x=if 0<=aCG st x then st else st++[x]):=aA0 rfl
 have HWC:Hid (wyC st wy x way=if 0<=aCG st x then wy else wy++[way]):=aA0 rfl
 have HH:=aA0 h;have HSS:=aA0 hS;have HROW:Hid (∀g,sv.ownBlock=some g->g<w.heap.size):=aA0 fun g e=>(h.b.srow.lt g e).2;have HNL:Hid (N<w.heap.size∧m<w.heap.size):=aA0 ⟨h.b.lN,h.b.lm⟩;obtain⟨xp,xt⟩:=x;simp only at*;have bX:=aA2 w (.cells #[.int .i64 xp,.string xt] 72);have nX:=aA3 (w:=w) (N:=w.heap.size) #[.int .i64 xp,.string xt] 72 rfl;have zX:w.heap.size<(w.alloc (.cells #[.int .i64 xp,.string xt] 72)).heap.size:=by simp
 clear h hS hbN;go_enter Tryz.func54,Tryz.ntmps54
 go_upto_region 1 with fail
 generalize w.alloc (.cells #[.int .i64 xp,.string xt] 72)=X at*;have HX:Hid (∀W,Below X.heap.size X W->(W.cell? ⟨w.heap.size,0,none⟩=some (.int .i64 xp)∧W.cell? ⟨w.heap.size,1,none⟩=some (.string xt))∧RcI base N m c0 c1 c2 st wy sv W∧Below w.heap.size w W):=aA0 fun W hW=>by
  have h:=(hW.block w.heap.size zX).trans nX;have hb:=bX.trans (hW.mono bX.size);exact⟨⟨(aA1 h 0 (by simp)).1,(aA1 h 1 (by simp)).1⟩,HH.out.keep hb,hb⟩
 have HZX:=aA0 zX;have bXX:Below X.heap.size X X.drew:=(Below.refl _ _).drew;clear bX nX zX HH;have HS1:Hid (∀W,Below X.heap.size X W->(W.cell? ⟨w.heap.size,0,none⟩=some (.int .i64 xp)∧W.cell? ⟨w.heap.size,1,none⟩=some (.string xt))∧W.cell? ⟨N,4,none⟩=some (.map (some m))):=aA0 fun W hW=>⟨(HX.out W hW).1,(HX.out W hW).2.1.b.cells.2.2⟩;by_cases hx:(⟨xp,xt⟩:Sta)∈ st
 ·have hsi:=HSI.out.2 hx;have HE:Hid (stC st ⟨xp,xt⟩=st∧wyC st wy ⟨xp,xt⟩ way=wy):=aA0 ⟨by rw[HSC.out,if_pos hsi],by rw[HWC.out,if_pos hsi]⟩
  clear HSI HSC HWC hsi;obtain⟨la,lc,lw,-,-,hlk⟩:=((HX.out _ bXX).2.1.look ⟨xp,xt⟩).1 hx;replace hlk:=hlk true
  simp only[if_true] at hlk;generalize lw.length=lwl at*;refine wp_region_held_drew (S:=(fun W=>(W.cell? ⟨w.heap.size,0,none⟩=some (.int .i64 xp)∧W.cell? ⟨w.heap.size,1,none⟩=some (.string xt))∧W.cell? ⟨N,4,none⟩=some (.map (some m)))) (by kernel_rfl) (HS1.out _ bXX) (fun hHeld=>?_)
  refine tkH 0 hHeld ?_;refine tkH 1 hHeld ?_;refine tkH 2 hHeld ?_;refine tkH 3 hHeld ?_;refine tkH 4 hHeld ?_;refine rdyH [5] ?_;refine rcH (fun K hK=>?_) AllReadyH.nil;go_simp
  clear hlk;refine hK.out _ _ (HS1.out _ bXX) (fun hHeld=>?_);clear hK K;try simp only[Act.put,sIA,sI0,sIS]
  refine tkH 6 hHeld ?_;refine tkH 7 hHeld ?_;refine tkH 8 hHeld ?_;refine tkH 9 hHeld ?_;refine tkH 10 hHeld ?_;refine wpAnyH_done (by kernel_rfl) ?_ _
  have HFIN:Hid (aLU base N m c0 c1 c2 st wy sv ⟨xp,xt⟩ way w (.returned (.tuple #[])) X.drew):=aA0 ⟨rfl,sv,by rw[HE.out.1,HE.out.2];exact(HX.out _ bXX).2.1,ChgP.of_below (HX.out _ bXX).2.2,fun g e=>.inl e⟩
  go_wp2_with fail
  first
   |exact bodyPost_end (v:=.tuple #[]) (by simp[results,Tryz.results54,go_sem]) rfl HFIN.out
   |exact bodyPost_ret (v:=.tuple #[]) (by simp[results,Tryz.results54,go_sem]) rfl HFIN.out
 ·have hsi:¬0<=aCG st ⟨xp,xt⟩:=fun e=>hx (HSI.out.1 e);have HE:Hid (stC st ⟨xp,xt⟩=st++[⟨xp,xt⟩]∧wyC st wy ⟨xp,xt⟩ way=wy++[way]):=aA0 ⟨by rw[HSC.out,if_neg hsi],by rw[HWC.out,if_neg hsi]⟩
  clear HSI HSC HWC hsi;have hlk:=((HX.out _ bXX).2.1.look ⟨xp,xt⟩).2 hx;refine wp_region_held_drew (S:=(fun W=>(W.cell? ⟨w.heap.size,0,none⟩=some (.int .i64 xp)∧W.cell? ⟨w.heap.size,1,none⟩=some (.string xt))∧W.cell? ⟨N,4,none⟩=some (.map (some m)))) (by kernel_rfl) (HS1.out _ bXX) (fun hHeld=>?_)
  generalize X.drew=wD at*;refine tkH 0 hHeld ?_;refine tkH 1 hHeld ?_;refine tkH 2 hHeld ?_;refine tkH 3 hHeld ?_;refine tkH 4 hHeld ?_;refine rdyH [5] ?_;refine rcH (fun K hK=>?_) AllReadyH.nil;go_simp
  clear hlk;refine hK.out _ _ (HS1.out _ bXX) (fun hHeld=>?_);clear hK K;try simp only[Act.put,sIA,sI0,sIS]
  refine tkH 6 hHeld ?_;refine tkH 7 hHeld ?_;refine tkH 8 hHeld ?_;refine tkH 9 hHeld ?_;refine tkH 10 hHeld ?_;refine wpAnyH_done (by kernel_rfl) ?_ _
  have bXY:=bXX;go_upto_region 3 with fail
  have bYY:=bXY.drew;refine wp_region_held_drew (S:=(fun W=>(W.cell? ⟨w.heap.size,0,none⟩=some (.int .i64 xp)∧W.cell? ⟨w.heap.size,1,none⟩=some (.string xt))∧W.cell? ⟨N,4,none⟩=some (.map (some m)))) (by kernel_rfl) (HS1.out _ bYY) (fun hHeld=>?_)
  generalize wD.drew=wY at*;refine tkH 0 hHeld ?_;refine tkH 1 hHeld ?_;refine tkH 2 hHeld ?_;refine tkH 3 hHeld ?_;refine tkH 4 hHeld ?_;refine tkH 5 hHeld ?_;refine rdyH [6] ?_;refine rcH (fun K hK=>?_) AllReadyH.nil;obtain⟨G,hO,hWM⟩:=(HX.out wY bYY).2.1.map;obtain⟨wT,G2,hrun,hG2,hGx,hGo,hgr⟩:=hO.storeG (aV8 _) Tryz.underlying64 (x:=skS ⟨xp,xt⟩) ⟨_,_,rfl⟩ (.slice a way.length c);simp only[skS,sk] at hrun;have HTT:=aA0 (And.intro (And.intro hO hWM) (And.intro hG2 (And.intro hGx (And.intro hGo hgr))));have HTS:Hid (∀W,Below wT.heap.size wT W->(W.cell? ⟨w.heap.size,0,none⟩=some (.int .i64 xp)∧W.cell? ⟨w.heap.size,1,none⟩=some (.string xt))∧RcB base N m c0 c1 c2 st sv W):=aA0 fun W hW=>by
   have hz:=HZX.out;have hn:=HNL.out;have hs:=hgr.size;have hy:=bYY.size;have hb:=(hW.block w.heap.size (by omega)).trans (hgr.block w.heap.size (by omega) fun e=>by have:=Option.some.inj e;omega)
   exact⟨⟨(World.cell?_of_block (a:=⟨w.heap.size,0,none⟩) hb).trans (HX.out wY bYY).1.1,(World.cell?_of_block (a:=⟨w.heap.size,1,none⟩) hb).trans (HX.out wY bYY).1.2⟩,((HX.out wY bYY).2.1.b.map hgr).keep hW⟩
  clear hO hWM hG2 hGx hGo hgr;go_simp
  clear hrun;refine hK.out _ _ (by have hq:=HTS.out wT (Below.refl _ _);exact⟨hq.1,hq.2.cells.2.2⟩) (fun hHeld=>?_)
  clear hK K;try simp only[Act.put,sIA,sI0,sIS]
  refine wpAnyH_done (by kernel_rfl) ?_ _
  go_upto_region 4 with fail
  refine wp_region_held_drew (S:=(fun W=>W.cell? ⟨w.heap.size,0,none⟩=some (.int .i64 xp)∧W.cell? ⟨w.heap.size,1,none⟩=some (.string xt))) (by kernel_rfl) (HTS.out _ (Below.refl _ _).drew).1 (fun hHeld=>?_)
  have bV:Below wT.heap.size wT wT.drew:=(Below.refl _ _).drew;generalize wT.drew=wV at*;obtain⟨iS,hiS,hS0,hS1,hS2⟩:=info_parts aTZ;obtain⟨n,hn⟩:∃n,n=st.length:=⟨_,rfl⟩;have hnl:n<=1000:=by omega
  have HNN:=aA0 hn;have HBV:Hid (base<=wT.heap.size):=aA0 (by have h1:=HBS.out;have h2:=HTT.out.2.2.2.2.size;have h3:=(HX.out wY bYY).2.2.size;omega)
  have HX4:Hid (∀W,Below wT.heap.size wT W->∀wF,W.grownBy wF sv.ownBlock->(wF.cell? ⟨w.heap.size,0,none⟩=some (.int .i64 xp)∧wF.cell? ⟨w.heap.size,1,none⟩=some (.string xt))∧∀v,(wF.setCell ⟨N,3,none⟩ v).cell? ⟨w.heap.size,0,none⟩=some (.int .i64 xp)∧(wF.setCell ⟨N,3,none⟩ v).cell? ⟨w.heap.size,1,none⟩=some (.string xt)):=aA0 fun W hW wF hg=>by
   have hz:=HZX.out;have hs:=HTT.out.2.2.2.2.size;have hy:=bYY.size;have h2:=hW.size;have h3:=HNL.out;have hb:=hg.block w.heap.size (by omega) fun e=>by have:=HROW.out _ e.symm;omega
   have p0:=(World.cell?_of_block (a:=⟨w.heap.size,0,none⟩) hb).trans (HTS.out W hW).1.1;have p1:=(World.cell?_of_block (a:=⟨w.heap.size,1,none⟩) hb).trans (HTS.out W hW).1.2;exact⟨⟨p0,p1⟩,fun v=>⟨(World.cell?_setCell_other _ _ _ _ (by intro e;simp only[Addr.mk.injEq] at e;omega)).trans p0,(World.cell?_setCell_other _ _ _ _ (by intro e;simp only[Addr.mk.injEq] at e;omega)).trans p1⟩⟩
  have HSY:Hid (Strs wY (OffP base N m sv wY) way a):=aA0 ((HSS.out.mono fun b hb=>(HX.out wY bYY).2.2.block b hb.2.1).sub fun b hb=>⟨hb.1,Nat.lt_of_lt_of_le hb.2.1 (HX.out wY bYY).2.2.size,hb.2.2⟩);clear hn hl;refine tkH 0 hHeld ?_;refine tkH 1 hHeld ?_;refine tkH 2 hHeld ?_;refine tkH 3 hHeld ?_;refine tkH 5 hHeld ?_;refine rdyH [4,6] ?_;refine rcH (fun K hK=>?_) ?_
  ·have hc:=(HTS.out wV bV).2.cells.2.1;go_simp
   clear hc;refine hK.out _ _ (HTS.out wV bV).1 (fun hHeld=>?_);clear hK K;try simp only[Act.put,sIA,sI0,sIS]
   refine rdyH [6] ?_;refine rcH (fun K hK=>?_) AllReadyH.nil;go_simp
   have bE:=aA2 wV (.cells #[.int .i64 xp,.string xt] 72);obtain⟨gE,hgE⟩:∃g,g=wV.heap.size:=⟨_,rfl⟩;have nE:=aA3 (w:=wV) (N:=gE) #[.int .i64 xp,.string xt] 72 hgE.symm;have bV:=bV.trans (bE.mono bV.size);refine hK.out _ _ (HTS.out _ bV).1 (fun hHeld=>?_);clear hK K;try simp only[Act.put,sIA,sI0,sIS]
   rw[<-hgE];generalize wV.alloc (.cells #[.int .i64 xp,.string xt] 72)=wE at*;clear hgE bE;refine rdyH [7] ?_;refine rcH (fun K hK=>?_) AllReadyH.nil;refine step_append_lies _ rfl (.tmp 28) (.tmp 30) 24 rfl base 72 iS (.agg #[.int .i64 0,.string ByteArray.empty]) 2 24 Tryz.underlying24 hiS hS0 hS1 hS2 rfl (by decide) sv n (aE0 st) rfl (by rw[HNN.out];exact(HTS.out wE bV).2.srow) ⟨gE,0,none⟩ 1 1 [.int .i64 xp,.string xt] rfl rfl (World.news_of_block nE) (by intro u hu;simp at hu;rcases hu with rfl| rfl<;>rfl) (by omega) (by unfold maxLen;omega) (by omega) (Nat.le_trans HBV.out bV.size) _ rfl ?_
   intro gF capF wF oF hgF horF hltF;have hnF:∀g,(Value.slice (some ⟨gF,0,none⟩) (n+1) capF).ownBlock=some g->sv.ownBlock=some g∨g=wE.heap.size:=fun g hg=>by simp only[Value.ownBlock,Option.some.injEq] at hg;subst hg;exact horF
   have HST:=aA0 ((HX.out wY bYY).2.1.come hx HSY.out HTT.out.1 HTT.out.2.1 HTT.out.2.2.1 HTT.out.2.2.2.1 HTT.out.2.2.2.2 bV (by rw[<-HNN.out];exact oF) hgF hnF)
   have HXF:=aA0 (HX4.out wE bV wF hgF);clear oF hgF horF hltF hnF;refine hK.out _ _ HXF.out.1 (fun hHeld=>?_);clear hK K;try simp only[Act.put,sIA,sI0,sIS]
   refine tkH 8 hHeld ?_;refine tkH 9 hHeld ?_;refine rdyH [10] ?_;refine rcH (fun K hK=>?_) AllReadyH.nil;obtain⟨⟨hc,hz⟩,-⟩:=HST.out;go_simp
   clear hc hz;refine hK.out _ _ (HXF.out.2 _) (fun hHeld=>?_);clear hK K;try simp only[Act.put,sIA,sI0,sIS]
   refine wpAnyH_done (by kernel_rfl) ?_ _
   have HFIN:=aA0 (show aLU base N m c0 c1 c2 st wy sv ⟨xp,xt⟩ way w (.returned (.tuple #[])) _ from ⟨rfl,_,by rw[HE.out.1,HE.out.2];exact HST.out.2.1,ChgP.trans0 (HX.out wY bYY).2.2 HST.out.2.2.1,fun g e=>(HST.out.2.2.2 g e).imp id fun e=>Nat.le_trans (HX.out wY bYY).2.2.size e⟩)
   clear HST HXF;go_wp2_with fail
   refine bodyPost_end (v:=.tuple #[]) ?res rfl HFIN.out;case res=>simp[results,Tryz.results54,go_sem]
  refine rcH (fun K hK=>?_) AllReadyH.nil;go_simp
  have bE:=aA2 wV (.cells #[.int .i64 xp,.string xt] 72);obtain⟨gE,hgE⟩:∃g,g=wV.heap.size:=⟨_,rfl⟩;have nE:=aA3 (w:=wV) (N:=gE) #[.int .i64 xp,.string xt] 72 hgE.symm;have bV:=bV.trans (bE.mono bV.size);refine hK.out _ _ (HTS.out _ bV).1 (fun hHeld=>?_);clear hK K;try simp only[Act.put,sIA,sI0,sIS]
  rw[<-hgE];generalize wV.alloc (.cells #[.int .i64 xp,.string xt] 72)=wE at*;clear hgE bE;refine rdyH [4] ?_;refine rcH (fun K hK=>?_) AllReadyH.nil;have hc:=(HTS.out wE bV).2.cells.2.1;go_simp
  clear hc;refine hK.out _ _ (HTS.out wE bV).1 (fun hHeld=>?_);clear hK K;try simp only[Act.put,sIA,sI0,sIS]
  refine rdyH [7] ?_;refine rcH (fun K hK=>?_) AllReadyH.nil;refine step_append_lies _ rfl (.tmp 28) (.tmp 30) 24 rfl base 72 iS (.agg #[.int .i64 0,.string ByteArray.empty]) 2 24 Tryz.underlying24 hiS hS0 hS1 hS2 rfl (by decide) sv n (aE0 st) rfl (by rw[HNN.out];exact(HTS.out wE bV).2.srow) ⟨gE,0,none⟩ 1 1 [.int .i64 xp,.string xt] rfl rfl (World.news_of_block nE) (by intro u hu;simp at hu;rcases hu with rfl| rfl<;>rfl) (by omega) (by unfold maxLen;omega) (by omega) (Nat.le_trans HBV.out bV.size) _ rfl ?_
  intro gF capF wF oF hgF horF hltF;have hnF:∀g,(Value.slice (some ⟨gF,0,none⟩) (n+1) capF).ownBlock=some g->sv.ownBlock=some g∨g=wE.heap.size:=fun g hg=>by simp only[Value.ownBlock,Option.some.injEq] at hg;subst hg;exact horF
  have HST:=aA0 ((HX.out wY bYY).2.1.come hx HSY.out HTT.out.1 HTT.out.2.1 HTT.out.2.2.1 HTT.out.2.2.2.1 HTT.out.2.2.2.2 bV (by rw[<-HNN.out];exact oF) hgF hnF)
  have HXF:=aA0 (HX4.out wE bV wF hgF);clear oF hgF horF hltF hnF;refine hK.out _ _ HXF.out.1 (fun hHeld=>?_);clear hK K;try simp only[Act.put,sIA,sI0,sIS]
  refine tkH 8 hHeld ?_;refine tkH 9 hHeld ?_;refine rdyH [10] ?_;refine rcH (fun K hK=>?_) AllReadyH.nil;obtain⟨⟨hc,hz⟩,-⟩:=HST.out;go_simp
  clear hc hz;refine hK.out _ _ (HXF.out.2 _) (fun hHeld=>?_);clear hK K;try simp only[Act.put,sIA,sI0,sIS]
  refine wpAnyH_done (by kernel_rfl) ?_ _
  have HFIN:=aA0 (show aLU base N m c0 c1 c2 st wy sv ⟨xp,xt⟩ way w (.returned (.tuple #[])) _ from ⟨rfl,_,by rw[HE.out.1,HE.out.2];exact HST.out.2.1,ChgP.trans0 (HX.out wY bYY).2.2 HST.out.2.2.1,fun g e=>(HST.out.2.2.2 g e).imp id fun e=>Nat.le_trans (HX.out wY bYY).2.2.size e⟩)
  clear HST HXF;go_wp2_with fail
  refine bodyPost_end (v:=.tuple #[]) ?res rfl HFIN.out;case res=>simp[results,Tryz.results54,go_sem]
theorem aTF(FW:World)(tmps:Array Value)(R:Nat)(v0 v1 v2 v3 v4:Value)(h2:tmps.getD 2 undef=.pointer (some ⟨R,0,none⟩))(hN:FW.heap[R]?=some (.cells #[v0,v1,v2,v3,v4] 66 (0,0))):
  (results Tryz.f30 tmps).run Tryz.prog FW=.ok (.agg #[v0,v1,v2,v3,v4]) FW:=by
 have d0:=(aA1 hN 0 (by simp)).1
 have d1:=(aA1 hN 1 (by simp)).1
 have d2:=(aA1 hN 2 (by simp)).1
 have d3:=(aA1 hN 3 (by simp)).1
 have d4:=(aA1 hN 4 (by simp)).1
 simp only[List.getElem_toArray,List.getElem_cons_zero,List.getElem_cons_succ] at d0 d1 d2 d3 d4;simp only[Array.getD_eq_getD_getElem?] at h2;simp[results,Tryz.results30,go_sem,h2,d0,d1,d2,d3,d4]
end Go.Proofs.YtcebpkeiaiiphaaGreatDoor
namespace Go.Proofs.YtcebpkeiaiiphaaGreatDoor
open Go.RowKit Go.Maps
theorem aP5(p:Pt)(w:World)(B:Nat)(v:Value)(hP:PRep w (·<B) p v)(hB:B<=w.heap.size):∃(ta:Option Addr) (tc:Nat),v=.agg #[.string p.name,.slice ta p.types.length tc]∧∀T,∀W,Below (w.alloc (.cells #[.string p.name,.slice ta p.types.length tc] T)).heap.size (w.alloc (.cells #[.string p.name,.slice ta p.types.length tc] T)) W->
  W.cell? ⟨w.heap.size,0,none⟩=some (.string p.name)∧W.cell? ⟨w.heap.size,1,none⟩=some (.slice ta p.types.length tc)∧PRep W (·<B) p (.agg #[.string p.name,.slice ta p.types.length tc])∧Below w.heap.size w W∧B<=W.heap.size:=by
 have hP':=hP;obtain⟨ta,tc,rfl,-⟩:=hP';refine⟨ta,tc,rfl,fun T W hW=>?_⟩;have nX:=aA3 (w:=w) (N:=w.heap.size) #[.string p.name,.slice ta p.types.length tc] T rfl;have bX:=aA2 w (.cells #[.string p.name,.slice ta p.types.length tc] T);have zX:(w.alloc (.cells #[.string p.name,.slice ta p.types.length tc] T)).heap.size=w.heap.size+1:=by simp
 have h:=(hW.block w.heap.size (by omega)).trans nX
 have hb:=bX.trans (hW.mono (by omega))
 have:=hb.size;exact⟨(aA1 h 0 (by simp)).1,(aA1 h 1 (by simp)).1,hP.under (hb.mono hB),hb,by omega⟩
set_option maxRecDepth 20000 in
set_option maxHeartbeats 1600000 in
theorem aIR(p:Pt)(nm:ByteArray)(w:World)(B:Nat)(v:Value)(hP:PRep w (·<B) p v)(hB:B<=w.heap.size):
  Calls Tryz.prog 107 #[v,.string nm] w fun e w'=>e=.returned (.bool (aCV p nm))∧Below w.heap.size w w':=by
 obtain⟨ta,tc,rfl,hX⟩:=aP5 p w B v hP hB;have HX:=aA0 (hX 46);have zX:(w.alloc (.cells #[.string p.name,.slice ta p.types.length tc] 46)).heap.size=w.heap.size+1:=by simp
 clear hX hP;go_enter Tryz.func107,Tryz.ntmps107
 go_upto_region 1 with fail
 generalize w.alloc (.cells #[.string p.name,.slice ta p.types.length tc] 46)=X at*;obtain⟨c0,c1,hPX,bX,hBX⟩:=HX.out X (Below.refl _ _);have HBX:=aA0 hBX;have hT:=aDO p X B _ nm hPX hBX;have HTX:Hid (aAR p nm=aA9 (fun i=>(tth p.types i).name.toList==nm.toList) p.types.length):=aA0 rfl;rw[<-HTX.out] at hT;rcases aA8 (fun i=>(tth p.types i).name.toList==nm.toList) p.types.length with⟨hx,-⟩| ⟨g,hx,hg,-,-⟩
 ·rw[<-HTX.out] at hx;have HK:Hid (aCV p nm=false):=aA0 (by rw[aCV,aA5,if_neg (by rw[hx];omega)];simp[T.zero,ByteArray.toList_eq])
  rw[hx] at hT;have HT:=aA0 hT;clear hT hPX hx hBX;go_wp2_with (go_at_call 62;refine HT.out.mono ?_;rintro e w1 ⟨rfl,hb1⟩;obtain⟨y0,y1,-,b1,-⟩:=HX.out w1 hb1)
  go_ret
  exact⟨by rw[HK.out]<;>rfl,b1⟩
 ·rw[<-HTX.out] at hx;have hto:aA5 p nm=tth p.types g:=by rw[aA5,if_pos (by rw[hx];omega),hx];rfl
  rw[hx] at hT;have HT:=aA0 hT;obtain⟨ta',tc',e,hTs,-⟩:=hPX;simp only[Value.agg.injEq,Array.mk.injEq,List.cons.injEq,Value.slice.injEq,true_and,and_true] at e;obtain⟨rfl,rfl⟩:=e;obtain⟨tb,toff,fa,fc,rfl,htr,hcs⟩:=hTs.at hBX g hg;have hgi:(g:Int)<(p.types.length:Int):=by omega
  obtain⟨ky,hky⟩:∃ky,ky=(tth p.types g).key:=⟨_,rfl⟩;have HC:Hid (∀W,Below X.heap.size X W->W.cell? ⟨tb,toff+g*3+1,none⟩=some (.string ky)):=aA0 fun W hW=>by rw[hky];exact(hcs W hW).2.1
  have HKY:Hid (aCV p nm=!ky.toList.isEmpty):=aA0 (by rw[aCV,hto,hky])
  clear hT hx hto hTs htr hcs hky hBX;generalize p.types.length=tl at*;cases hke:ky.toList.isEmpty;all_goals
   go_wp2_with (go_at_call 62;refine HT.out.mono ?_;rintro e w1 ⟨rfl,hb1⟩;have x1:=HC.out w1 hb1;obtain⟨y0,y1,-,b1,-⟩:=HX.out w1 hb1)
   go_ret
   exact⟨by rw[HKY.out,hke]<;>rfl,b1⟩
set_option maxRecDepth 20000 in
set_option maxHeartbeats 1600000 in
theorem aNN(p:Pt)(nm n:ByteArray)(w:World)(B:Nat)(v:Value)(hP:PRep w (·<B) p v)(hB:B<=w.heap.size):
  Calls Tryz.prog 105 #[v,.string nm,.string n] w fun e w'=>e=.returned (.bool (aCE p nm n))∧Below w.heap.size w w':=by
 obtain⟨ta,tc,rfl,hX⟩:=aP5 p w B v hP hB;have HX:=aA0 (hX 46);have zX:(w.alloc (.cells #[.string p.name,.slice ta p.types.length tc] 46)).heap.size=w.heap.size+1:=by simp
 clear hX hP;go_enter Tryz.func105,Tryz.ntmps105
 go_upto_region 1 with fail
 generalize w.alloc (.cells #[.string p.name,.slice ta p.types.length tc] 46)=X at*;obtain⟨c0,c1,hPX,bX,hBX⟩:=HX.out X (Below.refl _ _);have HG:=aA0 (aDH p nm n X B _ hPX hBX);have HE:Hid (aCE p nm n=(sayB p nm n&&!(sayF p nm n).far&&decide ((sayF p nm n).needs.length=0))):=aA0 rfl;have HZX:=aA0 zX;clear hPX hBX;generalize sayF p nm n=g at*;generalize sayB p nm n=kn at*;obtain⟨gn,gof,gl,gm,gfr,gh,gs,gd⟩:=g;simp only[fval] at HG HE;cases kn
 ·go_wp2_with (go_at_call 38;refine HG.out.mono ?_;rintro e w1 ⟨na,nc,rfl,hb1,-⟩;have b01:=fun o=>hb1.trans ((aA2 w1 o).mono hb1.size))
  go_ret
  exact⟨by rw[HE.out]<;>rfl,(HX.out _ (b01 _)).2.2.2.1⟩
 cases gfr
 rotate_left
 ·go_wp2_with (go_at_call 38;refine HG.out.mono ?_;rintro e w1 ⟨na,nc,rfl,hb1,-⟩;have b01:=fun o=>hb1.trans ((aA2 w1 o).mono hb1.size))
  go_ret
  exact⟨by rw[HE.out]<;>rfl,(HX.out _ (b01 _)).2.2.2.1⟩
 by_cases hgd:gd.length=0
 ·rw[hgd] at HG HE;go_wp2_with (go_at_call 38;refine HG.out.mono ?_;rintro e w1 ⟨na,nc,rfl,hb1,-⟩;have b01:=fun o=>hb1.trans ((aA2 w1 o).mono hb1.size))
  go_ret
  exact⟨by rw[HE.out]<;>rfl,(HX.out _ (b01 _)).2.2.2.1⟩
 ·have hgi:¬(gd.length:Int)=0:=by omega
  go_wp2_with (go_at_call 38;refine HG.out.mono ?_;rintro e w1 ⟨na,nc,rfl,hb1,-⟩;have b01:=fun o=>hb1.trans ((aA2 w1 o).mono hb1.size))
  go_ret
  exact⟨by rw[HE.out];simp[hgd],(HX.out _ (b01 _)).2.2.2.1⟩
set_option maxRecDepth 20000 in
set_option maxHeartbeats 1600000 in
theorem aNF(ps:List Pt)(nm n:ByteArray)(w:World)(B:Nat)(a:Option Addr)(c:Nat)(hR:aAP w (·<B) ps a)(hB:B<=w.heap.size):
  Calls Tryz.prog 106 #[.slice a ps.length c,.string nm,.string n] w fun e w'=>e=.returned (.int .i64 (aC2 ps nm n))∧Below w.heap.size w w':=by
 have h40:=hR.1;have HR:=aA0 hR;have HBL:=aA0 hB;clear hR hB;have HQ:Hid (qB nm=(nm.toList==[113,117,101,114,121])):=aA0 rfl;cases hq:(nm.toList==[113,117,101,114,121]);all_goals
  rw[hq] at HQ;go_enter Tryz.func106,Tryz.ntmps106
  go_wp2_with fail
  go_loopw [7] (fun i wr=>∃k:Nat,k<=ps.length∧i=.int .i64 k∧Hid (∀j,j<k->aDL ps nm n j=false)∧Below w.heap.size w wr) (fun i _=>ps.length- (intOf i).toNat)
  case atStart=>exact⟨0,Nat.zero_le _,rfl,aA0 fun j hj=>by omega,Below.refl _ _⟩
  case round=>
   obtain⟨k,hk,rfl,HN,hb⟩:=hrel;obtain⟨w0,rfl⟩:∃x,x=wr:=⟨wr,rfl⟩;have zb:=hb.size;by_cases hlt:k<ps.length
   case neg=>
    have e:k=ps.length:=by omega
    subst e;have HE:Hid (aC2 ps nm n=-1):=aA0 (aB3 HN.out);go_wp2_with fail
    go_ret
    exact⟨by rw[HE.out]<;>rfl,hb⟩
   have hki:(k:Int)<(ps.length:Int):=by omega
   obtain⟨pb,po,ta,tc,rfl,hpB,q0,q1,hP⟩:=(HR.out.under (hb.mono HBL.out)).at k hlt;have HG:=aA0 (aDH (pth ps k) nm n w0 B _ hP (by have:=HBL.out;omega))
   have HKD:=aA0 (fun W (hW:Below w0.heap.size w0 W)=>aIR (pth ps k) nm W B _ (hP.under (hW.mono (by have:=HBL.out;omega))) (by have:=HBL.out;have:=hW.size;omega))
   have HQC:Hid (∀W,Below w0.heap.size w0 W->W.cell? ⟨pb,po+k*2,none⟩=some (.string (pth ps k).name)∧W.cell? ⟨pb,po+k*2+1,none⟩=some (.slice ta (pth ps k).types.length tc)):=aA0 fun W hW=>⟨(hW.cell (p:=⟨pb,po+k*2,none⟩) (by show pb<_;have:=HBL.out;omega)).trans q0,(hW.cell (p:=⟨pb,po+k*2+1,none⟩) (by show pb<_;have:=HBL.out;omega)).trans q1⟩
   clear hP;have HAT:Hid (aDL ps nm n k=((sayB (pth ps k) nm n&&!(sayF (pth ps k) nm n).far)&&(qB nm||aCV (pth ps k) nm))):=aA0 rfl;have HNO:Hid (aDL ps nm n k=false->∀j,j<k+1->aDL ps nm n j=false):=aA0 fun h j hj=>by
    by_cases e:j=k
    ·subst e;exact h
    ·exact HN.out j (by omega)
   have HYE:Hid (aDL ps nm n k=true->aC2 ps nm n=k):=aA0 fun h=>aAX HN.out h hlt;rw[HQ.out] at HAT;generalize pth ps k=p at*;generalize sayF p nm n=g at*;generalize sayB p nm n=kn at*;generalize aCV p nm=kd at*;generalize aDL ps nm n k=hm at*;obtain⟨gn,gof,gl,gm,gfr,gh,gs,gd⟩:=g;simp only[fval] at HG HAT;have HOT:=aA0 hb;cases kn<;>cases gfr<;>cases kd;all_goals
    go_wp2_with (first
     |(go_at_call 38;refine HG.out.mono ?_;rintro e w1 ⟨na,nc,rfl,hb1,-⟩;have b01:=fun o=>hb1.trans ((aA2 w1 o).mono hb1.size);have y0:=fun o=>(HQC.out _ (b01 o)).1;have y1:=fun o=>(HQC.out _ (b01 o)).2)
     |(go_at_call 107;refine(HKD.out _ (b01 _)).mono ?_;rintro e w2 ⟨rfl,hb2⟩;replace b01:=(b01 _).trans (hb2.mono (b01 _).size)))
    first
     |(go_ret
       exact⟨by rw[HYE.out (by rw[HAT.out]<;>rfl)]<;>rfl,by first| exact hb.trans ((b01 _).mono zb)| exact hb.trans (b01.mono zb)⟩)
     |(go_roundw
       case measure=>simp[intOf];omega
       case rel=>exact⟨k+1,by omega,by go_num,aA0 (HNO.out (by rw[HAT.out]<;>rfl)),by first| exact hb.trans ((b01 _).mono zb)| exact hb.trans (b01.mono zb)⟩)
end Go.Proofs.YtcebpkeiaiiphaaGreatDoor
