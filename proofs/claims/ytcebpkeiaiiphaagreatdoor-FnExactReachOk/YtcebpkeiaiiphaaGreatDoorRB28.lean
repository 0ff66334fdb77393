import Derived.Test.YtcebpkeiaiiphaaGreatDoorRB27
import Derived.Test.YtcebpkeiaiiphaaGreatDoorRB25
set_option linter.unusedSimpArgs false
set_option linter.unusedVariables false
namespace Go.Proofs.YtcebpkeiaiiphaaGreatDoor
open Go.RowKit Go.Maps
theorem aOS(p:Pt):∀n k i,k≤i→i<k+n→aAG p i≠0→aFU p k n≤i
 |0,k,i,h1,h2,h3=>by omega
 |n+1,k,i,h1,h2,h3=>by
  rw[aFU]
  by_cases e:aAG p k=0
  ·rw[if_pos e]
   have:k≠i:=fun h=>h3 (h▸e)
   exact aOS p n (k+1) i (by omega) (by omega) h3
  ·rw[if_neg e];exact h1
theorem aED{p:Pt}(h:okP p=true){i:Nat}(hi:i<p.types.length):aAG p i=0:=by
 by_cases e:aAG p i=0
 ·exact e
 ·have:=aOS p p.types.length 0 i (Nat.zero_le _) (by omega) e
  have h4:¬badT p<p.types.length:=fun hc=>by simp[okP,hc] at h
  unfold badT at h4
  omega
theorem aE7{p:Pt}(h:okP p=true):0<p.types.length∧p.types.length≤5:=by
 simp[okP,aB6] at h
 omega
theorem aCJ{p:Pt}{i:Nat}(h:aAG p i=0):0<(tth p.types i).fields.length∧(tth p.types i).fields.length≤8∧aCI p.types i (tth p.types i)=false:=by
 unfold aAG at h
 by_cases a:aAQ (tth p.types i)=false
 ·rw[if_pos a] at h;omega
 rw[if_neg a] at h
 by_cases b:aCI p.types i (tth p.types i)=true
 ·rw[if_pos b] at h;omega
 simp[aAQ] at a
 exact⟨by omega,by omega,by simpa using b⟩
theorem aFC{q:Nat→Bool}{n k:Nat}(hk:k<n)(hq:q k=true):0≤aA9 q n:=by
 rcases aA8 q n with⟨h,ha⟩| ⟨j,h,hj,hqj,ha⟩
 ·rw[ha k hk] at hq;cases hq
 ·omega
theorem aUG(a:List T)(t:T):tth (a++[t]) a.length=t:=by simp[tth,List.getD_eq_getElem?_getD]
end Go.Proofs.YtcebpkeiaiiphaaGreatDoor
namespace Go.Proofs.YtcebpkeiaiiphaaGreatDoor
open Go.RowKit
theorem aIU{a b:ByteArray}(h:a.toList=b.toList):a=b:=by
 rw[ByteArray.toList_eq,ByteArray.toList_eq] at h
 cases a;cases b
 simp only[ByteArray.mk.injEq]
 exact Array.toList_inj.1 h
def ownO(ps:List Pt)(nm n:ByteArray):O:=⟨nm,n,(aAW ps nm n).map fun(k:Nat)=>(k:Int)⟩
def ownF(ps:List Pt)(t:T):Nat→List O
 |0=>[]
 |k+1=>ownF ps t k++[ownO ps t.name (fth t.fields k).name]
def ownT(ps:List Pt)(A:Pt):Nat→List O
 |0=>[]
 |i+1=>ownT ps A i++ownF ps (tth A.types i) (tth A.types i).fields.length
theorem aI9(ps:List Pt)(t:T):∀k,(ownF ps t k).length=k
 |0=>rfl
 |k+1=>by rw[ownF,List.length_append,aI9 ps t k];rfl
theorem aLK(ps:List Pt)(A:Pt):∀i,(ownT ps A i).length≤fcT A i
 |0=>Nat.le_refl _
 |i+1=>by
  have:=aLK ps A i
  rw[ownT,List.length_append,aI9,fcT]
  omega
theorem aRB(ps:List Pt)(out:List T)(t:T):(tth (aD2 ps out t) (atT out t)).name=t.name:=by
 unfold aD2 atT
 by_cases e:0≤tyIx out t.name
 ·rw[if_pos e,if_pos e]
  have hx:tyIx out t.name=aA9 (fun i=>(tth out i).name.toList==t.name.toList) out.length:=rfl
  rcases aA8 (fun i=>(tth out i).name.toList==t.name.toList) out.length with⟨h2,-⟩| ⟨g,h2,hg,hq,-⟩
  ·rw[hx,h2] at e;omega
  ·rw[hx,h2,Int.toNat_natCast]
   exact aIU (by simpa using hq)
 ·rw[if_neg e,if_neg e,aUG]
theorem aTD(ps:List Pt)(out:List T)(t:T)(n:Nat):(tth (midT ps out t n) (atT out t)).name=t.name:=by
 rw[aO3,(aQ3 _ _ _).1]
 exact aRB ps out t
theorem aQE{p:Pt}(h:okP p=true){i:Nat}(hi:i<p.types.length):aAS p (tth p.types i).name=(i:Int):=by
 have hx:aAS p (tth p.types i).name=aA9 (fun k=>(tth p.types k).name.toList==(tth p.types i).name.toList) p.types.length:=rfl
 rcases aA8 (fun k=>(tth p.types k).name.toList==(tth p.types i).name.toList) p.types.length with⟨h2,ha⟩| ⟨g,h2,hg,hq,ha⟩
 ·have:=ha i hi;simp at this
 ·rw[hx,h2]
  by_cases e:g=i
  ·rw[e]
  ·exfalso
   have hgi:g<i:=by
    rcases Nat.lt_or_ge g i with h| h
    ·exact h
    ·have:=ha i (by omega);simp at this
   have h3:=(aCJ (aED h hi)).2.2
   simp only[aCI,Bool.or_eq_false_iff] at h3
   have h4:=aFC (q:=fun k=>(tth p.types k).name.toList==(tth p.types i).name.toList) hgi hq
   simp at h3
   omega
structure Su where
 tn:List ByteArray
 tf:ByteArray→List ByteArray
 ky:ByteArray→List ByteArray
 sd:ByteArray→ByteArray→List F
 ow:ByteArray→ByteArray→List Nat
def Su.zero:Su:=⟨[],fun _=>[],fun _=>[],fun _ _=>[],fun _ _=>[]⟩
def Su.key(X:Su)(t:T):Su:=if t.key.toList.isEmpty=true then X else { X with ky:=fun m=>if m=t.name then X.ky m++[t.key] else X.ky m }
def Su.fld(X:Su)(i:Nat)(nm:ByteArray)(f:F):Su where
 tn:=if(X.sd nm f.name).length=0∧(X.tf nm).length=0 then X.tn++[nm] else X.tn
 tf:=if(X.sd nm f.name).length=0 then(fun m=>if m=nm then X.tf m++[f.name] else X.tf m) else X.tf
 ky:=X.ky
 sd:=fun m n=>if m=nm∧n=f.name then X.sd m n++[f] else X.sd m n
 ow:=if f.far=true then X.ow else fun m n=>if m=nm∧n=f.name then X.ow m n++[i] else X.ow m n
def Su.flds(X:Su)(i:Nat)(t:T):Nat→Su
 |0=>X
 |l+1=>(X.flds i t l).fld i t.name (fth t.fields l)
def Su.look(X:Su)(i:Nat)(t:T):Su:=(X.key t).flds i t t.fields.length
def Su.tys(X:Su)(i:Nat)(p:Pt):Nat→Su
 |0=>X
 |k+1=>(X.tys i p k).look i (tth p.types k)
def suTo(ps:List Pt):Nat→Su
 |0=>Su.zero
 |i+1=>(suTo ps i).tys i (pth ps i) (pth ps i).types.length
def suM(ps:List Pt):Su:=suTo ps ps.length
theorem aPC{p:Pt}(h:okP p=true){k l:Nat}(hk:k<p.types.length)(hl:l<(tth p.types k).fields.length):aAC (tth p.types k) (fth (tth p.types k).fields l).name=(l:Int):=by
 have hx:aAC (tth p.types k) (fth (tth p.types k).fields l).name=aA9 (fun i=>(fth (tth p.types k).fields i).name.toList==(fth (tth p.types k).fields l).name.toList) (tth p.types k).fields.length:=rfl
 have h3:=(aCJ (aED h hk)).2.2
 simp only[aCI,Bool.or_eq_false_iff] at h3
 rcases aA8 (fun i=>(fth (tth p.types k).fields i).name.toList==(fth (tth p.types k).fields l).name.toList) (tth p.types k).fields.length with⟨h2,h4⟩| ⟨g,h2,hg,hq,h4⟩
 ·have:=h4 l hl
  simp at this
 ·rw[hx,h2]
  by_cases e:g=l
  ·rw[e]
  ·exfalso
   have hgl:g<l:=by
    rcases Nat.lt_or_gt_of_ne e with h5| h5
    ·exact h5
    ·have:=h4 l h5
     simp at this
   have h6:aCY (tth p.types k) (tth p.types k).fields.length=true:=by simpa using h3.2
   have h7:aMN (tth p.types k) l=true:=by
    have:=List.all_eq_true.1 h6 l (by simpa using hl)
    exact this
   have h8:=aFC (q:=fun j=>(fth (tth p.types k).fields j).name.toList==(fth (tth p.types k).fields l).name.toList) hgl hq
   simp only[aMN,Bool.not_eq_true',decide_eq_false_iff_not] at h7
   exact h7 h8
theorem aDA{t:T}{n:ByteArray}(h:0≤aAC t n):∃l:Nat,aAC t n=(l:Int)∧l<t.fields.length∧(fth t.fields l).name=n:=by
 have hx:aAC t n=aA9 (fun i=>(fth t.fields i).name.toList==n.toList) t.fields.length:=rfl
 rcases aA8 (fun i=>(fth t.fields i).name.toList==n.toList) t.fields.length with⟨h2,-⟩| ⟨g,h2,hg,hq,-⟩
 ·rw[hx,h2] at h;omega
 ·exact⟨g,by rw[hx,h2],hg,aIU (by simpa using hq)⟩
theorem aC9{p:Pt}{n:ByteArray}(h:0≤aAS p n):∃k:Nat,aAS p n=(k:Int)∧k<p.types.length∧(tth p.types k).name=n:=by
 have hx:aAS p n=aA9 (fun i=>(tth p.types i).name.toList==n.toList) p.types.length:=rfl
 rcases aA8 (fun i=>(tth p.types i).name.toList==n.toList) p.types.length with⟨h2,-⟩| ⟨g,h2,hg,hq,-⟩
 ·rw[hx,h2] at h;omega
 ·exact⟨g,by rw[hx,h2],hg,aIU (by simpa using hq)⟩
def tsay(t:T)(l:Nat)(n:ByteArray):List F:=if 0≤aAC t n∧aAC t n<(l:Int) then[aB9 t n] else[]
def aKW(i:Nat)(L:List F):List Nat:=if(L.length=0∨(fth L 0).far=true) then[] else[i]
theorem aHA{t:T}{n:ByteArray}{l:Nat}(h:aAC t n=(l:Int)):aB9 t n=fth t.fields l:=by
 unfold aB9
 rw[h,if_pos (by omega),Int.toNat_natCast]
theorem aRA{p:Pt}(h:okP p=true){k:Nat}(hk:k<p.types.length)(X:Su)(i:Nat):∀l,l≤(tth p.types k).fields.length→∀nm n,(X.flds i (tth p.types k) l).sd nm n=X.sd nm n++(if nm=(tth p.types k).name then tsay (tth p.types k) l n else[])∧(X.flds i (tth p.types k) l).ow nm n=X.ow nm n++(if nm=(tth p.types k).name then aKW i (tsay (tth p.types k) l n) else[])∧(X.flds i (tth p.types k) l).ky nm=X.ky nm
 |0,_,nm,n=>by
  have:tsay (tth p.types k) 0 n=[]:=by unfold tsay;rw[if_neg (by omega)]
  rw[this]
  simp[Su.flds,aKW]
 |l+1,hl,nm,n=>by
  obtain⟨h1,h2,h3⟩:=aRA h hk X i l (by omega) nm n
  have ho:=aPC h hk (l:=l) (by omega)
  simp only[Su.flds,Su.fld]
  rw[h1,h3]
  by_cases e:nm=(tth p.types k).name
  ·by_cases e2:n=(fth (tth p.types k).fields l).name
   ·have t0:tsay (tth p.types k) l n=[]:=by unfold tsay;rw[e2,ho,if_neg (by omega)]
    have t1:tsay (tth p.types k) (l+1) n=[fth (tth p.types k).fields l]:=by unfold tsay;rw[e2,ho,if_pos (by omega),aHA ho]
    rw[if_pos e] at h2
    rw[t0,show aKW i []=[] from rfl,List.append_nil] at h2
    rw[if_pos ⟨e,e2⟩,if_pos e,if_pos e,if_pos e,t0,t1]
    refine⟨by simp,?_,rfl⟩
    cases hf:(fth (tth p.types k).fields l).far
    ·rw[if_neg (by simp),if_pos ⟨e,e2⟩,h2]
     simp[aKW,fth,hf]
     simpa[fth] using hf
    ·rw[if_pos rfl,h2]
     simp[aKW,fth]
     simpa[fth] using hf
   ·have t1:tsay (tth p.types k) (l+1) n=tsay (tth p.types k) l n:=by
     unfold tsay
     by_cases hp:0≤aAC (tth p.types k) n
     ·obtain⟨g,hg,hgl,hgn⟩:=aDA hp
      have hne:g≠l:=fun e3=>e2 (by rw[←hgn,e3])
      rw[hg]
      by_cases hlt:(g:Int)<(l:Int)
      ·rw[if_pos ⟨by omega,by omega⟩,if_pos ⟨by omega,hlt⟩]
      ·rw[if_neg (by omega),if_neg (by omega)]
     ·rw[if_neg (fun h=>hp h.1),if_neg (fun h=>hp h.1)]
    rw[if_pos e] at h2
    rw[if_neg (fun h=>e2 h.2),t1,if_pos e]
    refine⟨rfl,?_,rfl⟩
    split
    ·exact h2
    ·show(if nm=_∧n=_ then _ else _)=_
     rw[if_neg (fun h=>e2 h.2)];exact h2
  ·rw[if_neg (fun h=>e h.1)]
   rw[if_neg e] at h2 ⊢
   rw[if_neg e]
   refine⟨rfl,?_,rfl⟩
   split
   ·exact h2
   ·show(if nm=_∧n=_ then _ else _)=_
    rw[if_neg (fun h=>e h.1)];exact h2
def psay(p:Pt)(k:Nat)(nm n:ByteArray):List F:=if 0≤aAS p nm∧aAS p nm<(k:Int)∧sayB p nm n=true then[sayF p nm n] else[]
def pkey(p:Pt)(k:Nat)(nm:ByteArray):List ByteArray:=if 0≤aAS p nm∧aAS p nm<(k:Int)∧(aA7 p nm).key.toList.isEmpty=false then[(aA7 p nm).key] else[]
theorem aT3(t:T)(n:ByteArray):tsay t t.fields.length n=if 0≤aAC t n then[aB9 t n] else[]:=by
 unfold tsay
 by_cases h:0≤aAC t n
 ·obtain⟨l,hl,hlt,-⟩:=aDA h
  rw[if_pos ⟨h,by omega⟩,if_pos h]
 ·rw[if_neg (fun e=>h e.1),if_neg h]
theorem aDW{p:Pt}{nm:ByteArray}{k:Nat}(h:aAS p nm=(k:Int)):aA7 p nm=tth p.types k:=by
 unfold aA7
 rw[h,if_pos (by omega),Int.toNat_natCast]
theorem aUX(X:Su)(t:T)(nm n:ByteArray):(X.key t).sd nm n=X.sd nm n∧(X.key t).ow nm n=X.ow nm n∧(X.key t).ky nm=X.ky nm++(if nm=t.name∧t.key.toList.isEmpty=false then[t.key] else[]):=by
 unfold Su.key
 by_cases h:t.key.toList.isEmpty=true
 ·rw[if_pos h,if_neg (by rw[h];simp)];simp
 ·have h':t.key.toList.isEmpty=false:=by simpa using h
  rw[if_neg h]
  refine⟨rfl,rfl,?_⟩
  simp only[h']
  by_cases e:nm=t.name
  ·rw[if_pos e,if_pos ⟨e,trivial⟩]
  ·rw[if_neg e,if_neg (fun h=>e h.1)];simp
theorem aTQ{p:Pt}(h:okP p=true)(X:Su)(i:Nat):∀k,k≤p.types.length→∀nm n,(X.tys i p k).sd nm n=X.sd nm n++psay p k nm n∧(X.tys i p k).ow nm n=X.ow nm n++aKW i (psay p k nm n)∧(X.tys i p k).ky nm=X.ky nm++pkey p k nm
 |0,_,nm,n=>by
  have h1:psay p 0 nm n=[]:=by unfold psay;rw[if_neg (by omega)]
  have h2:pkey p 0 nm=[]:=by unfold pkey;rw[if_neg (by omega)]
  rw[h1,h2]
  simp[Su.tys,aKW]
 |k+1,hk,nm,n=>by
  obtain⟨h1,h2,h3⟩:=aTQ h X i k (by omega) nm n
  have hto:=aQE h (i:=k) (by omega)
  obtain⟨g1,g2,g3⟩:=aRA h (k:=k) (by omega) ((X.tys i p k).key (tth p.types k)) i _ (Nat.le_refl _) nm n
  obtain⟨q1,q2,q3⟩:=aUX (X.tys i p k) (tth p.types k) nm n
  simp only[Su.tys,Su.look]
  rw[g1,g2,g3,q1,q2,q3,h1,h2,h3,aT3]
  by_cases e:nm=(tth p.types k).name
  ·subst e
   have p0:psay p k (tth p.types k).name n=[]:=by unfold psay;rw[hto,if_neg (by omega)]
   have k0:pkey p k (tth p.types k).name=[]:=by unfold pkey;rw[hto,if_neg (by omega)]
   have p1:psay p (k+1) (tth p.types k).name n=if 0≤aAC (tth p.types k) n then[aB9 (tth p.types k) n] else[]:=by
    unfold psay sayB sayF
    rw[hto,aDW hto]
    by_cases hf:0≤aAC (tth p.types k) n
    ·rw[if_pos ⟨by omega,by omega,decide_eq_true hf⟩,if_pos hf]
    ·rw[if_neg (fun e=>by simp[hf] at e),if_neg hf]
   have k1:pkey p (k+1) (tth p.types k).name=if(tth p.types k).key.toList.isEmpty=false then[(tth p.types k).key] else[]:=by
    unfold pkey
    rw[hto,aDW hto]
    by_cases hf:(tth p.types k).key.toList.isEmpty=false
    ·rw[if_pos ⟨by omega,by omega,hf⟩,if_pos hf]
    ·rw[if_neg (fun e=>hf e.2.2),if_neg hf]
   rw[p0,k0,p1,k1]
   simp[aKW]
  ·have p1:psay p (k+1) nm n=psay p k nm n∧pkey p (k+1) nm=pkey p k nm:=by
    unfold psay pkey
    by_cases hp:0≤aAS p nm
    ·obtain⟨g,hg,hgl,hgn⟩:=aC9 hp
     have hne:g≠k:=fun e3=>e (by rw[←hgn,e3])
     have h9:(aAS p nm<((k+1:Nat):Int))↔(aAS p nm<(k:Int)):=by rw[hg];exact⟨fun _=>by omega,fun _=>by omega⟩
     refine⟨?_,?_⟩<;>simp only[h9]
    ·rw[if_neg (fun e=>hp e.1),if_neg (fun e=>hp e.1),if_neg (fun e=>hp e.1),if_neg (fun e=>hp e.1)]
     exact⟨rfl,rfl⟩
   rw[p1.1,p1.2,if_neg e,if_neg e,if_neg (fun h=>e h.1)]
   simp
def sdTo(ps:List Pt)(nm n:ByteArray):Nat→List F
 |0=>[]
 |i+1=>sdTo ps nm n i++if sayB (pth ps i) nm n=true then[sayF (pth ps i) nm n] else[]
def kyTo(ps:List Pt)(nm:ByteArray):Nat→List ByteArray
 |0=>[]
 |i+1=>kyTo ps nm i++if(aA7 (pth ps i) nm).key.toList.isEmpty=false then[(aA7 (pth ps i) nm).key] else[]
theorem aIL{p:Pt}{nm n:ByteArray}(h:sayB p nm n=true):0≤aAS p nm:=by
 by_cases e:0≤aAS p nm
 ·exact e
 ·exfalso
  unfold sayB aA7 at h
  rw[if_neg e,decide_eq_true_eq] at h
  obtain⟨l,-,hl,-⟩:=aDA h
  simp[T.zero] at hl
theorem aSQ(p:Pt)(nm n:ByteArray):psay p p.types.length nm n=if sayB p nm n=true then[sayF p nm n] else[]:=by
 unfold psay
 by_cases h:sayB p nm n=true
 ·have h1:=aIL h
  obtain⟨k,hk,hkl,-⟩:=aC9 h1
  rw[if_pos ⟨h1,by omega,h⟩,if_pos h]
 ·rw[if_neg (fun e=>h e.2.2),if_neg h]
theorem aTK(p:Pt)(nm:ByteArray):pkey p p.types.length nm=if(aA7 p nm).key.toList.isEmpty=false then[(aA7 p nm).key] else[]:=by
 unfold pkey
 by_cases h:(aA7 p nm).key.toList.isEmpty=false
 ·have h1:0≤aAS p nm:=by
   by_cases e:0≤aAS p nm
   ·exact e
   ·exfalso
    unfold aA7 at h
    rw[if_neg e] at h
    have h9:(T.zero.key.toList).isEmpty=true:=by rw[ByteArray.toList_eq];rfl
    rw[h9] at h
    cases h
  obtain⟨k,hk,hkl,-⟩:=aC9 h1
  rw[if_pos ⟨h1,by omega,h⟩,if_pos h]
 ·rw[if_neg (fun e=>h e.2.2),if_neg h]
theorem aHO{ps:List Pt}(h:∀i,i<ps.length→okP (pth ps i)=true):∀i,i≤ps.length→∀nm n,(suTo ps i).sd nm n=sdTo ps nm n i∧(suTo ps i).ow nm n=aBV ps nm n i∧(suTo ps i).ky nm=kyTo ps nm i
 |0,_,nm,n=>⟨rfl,rfl,rfl⟩
 |i+1,hi,nm,n=>by
  obtain⟨h1,h2,h3⟩:=aHO h i (by omega) nm n
  obtain⟨g1,g2,g3⟩:=aTQ (h i (by omega)) (suTo ps i) i _ (Nat.le_refl _) nm n
  rw[suTo,g1,g2,g3,h1,h2,h3,aSQ,aTK,sdTo,aBV,kyTo]
  refine⟨rfl,?_,rfl⟩
  congr 1
  unfold aG7 aKW
  by_cases hs:sayB (pth ps i) nm n=true
  ·rw[if_pos hs,hs]
   cases hf:(sayF (pth ps i) nm n).far
   ·rw[if_neg (by simp[fth,hf])];simp
   ·rw[if_pos (by simp[fth,hf])];simp
  ·have hs':sayB (pth ps i) nm n=false:=by simpa using hs
   rw[if_neg hs,hs']
   simp
end Go.Proofs.YtcebpkeiaiiphaaGreatDoor
namespace Go.Proofs.YtcebpkeiaiiphaaGreatDoor
open Go.RowKit Go.Maps
theorem aCK.partP{w:World}{B:Nat}{P:Nat→Prop}{ts:List T}{v:Value}(h:aCK w B P ts v)(hl:ts.length≤1000000000):PRep w (fun b=>P b∨(B≤b∧b<w.heap.size)) ⟨⟨#[97]⟩,ts⟩ (.agg #[.string ⟨#[97]⟩,v]):=by
 obtain⟨C,h1,h2⟩:=h
 have hr:∀i,i<ts.length→TRep w (fun b=>P b∨(B≤b∧b<w.heap.size)) (tth ts i) (.agg #[C i 0,C i 1,C i 2]):=fun i hi=>(h2 i hi).sub fun b hq=>hq.imp id fun x=>⟨x.1,x.2.1⟩
 have hA:∃ta tc,v=.slice ta ts.length tc∧ts.length≤tc∧Arr w (fun b=>P b∨(B≤b∧b<w.heap.size)) 3 ts.length ta C:=by
  obtain⟨hz,⟨rfl,h0⟩| ⟨g,cap,cur,rfl,hb,hg,hnc,hrest⟩⟩:=h1
  ·have hn:ts.length=0:=by simpa using h0
   rw[hn]
   exact⟨none,0,rfl,Nat.le_refl _,fun h=>absurd h (Nat.lt_irrefl _)⟩
  ·refine⟨_,_,rfl,hnc,fun _=>⟨g,0,rfl,?_,fun i hi j hj=>?_⟩⟩
   ·exact Or.inr (World.ownsRow.lt (w:=w) (base:=B) (e:=96) (size:=3) (n:=ts.length) (xs:=aD7 C ts.length) ⟨hz,Or.inr ⟨g,cap,cur,rfl,hb,hg,hnc,hrest⟩⟩ g rfl)
   ·rw[Nat.zero_add,World.ownsRow.cellAt (w:=w) (base:=B) (e:=96) (size:=3) (n:=ts.length) (xs:=aD7 C ts.length) ⟨hz,Or.inr ⟨g,cap,cur,rfl,hb,hg,hnc,hrest⟩⟩ (i*3+j) (by omega)]
    exact aGZ C _ i j hi hj
 obtain⟨ta,tc,rfl,hc,hA⟩:=hA
 exact⟨ta,tc,rfl,⟨by show 56*ts.length≤_;omega,C,hA,hr⟩,hc,by show(1:Nat)≤maxLen;unfold maxLen;omega⟩
theorem aCK.part{w:World}{B:Nat}{P:Nat→Prop}{ts:List T}{v:Value}(h:aCK w B P ts v)(hP:∀b,P b→b<w.heap.size)(hl:ts.length≤1000000000):PRep w (·<w.heap.size) ⟨⟨#[97]⟩,ts⟩ (.agg #[.string ⟨#[97]⟩,v]):=
 (h.partP hl).sub fun b hq=>hq.elim (hP b) fun x=>x.2
theorem aCK.keepB{w w':World}{B:Nat}{P:Nat→Prop}{ts:List T}{v:Value}(h:aCK w B P ts v)(hk:∀b,(P b∨(B≤b∧b<w.heap.size))→w'.heap[b]?=w.heap[b]?)(hs:w.heap.size≤w'.heap.size):aCK w' B P ts v:=by
 obtain⟨C,h1,h2⟩:=h
 refine⟨C,aB4 h1 fun j hj=>hk j (Or.inr (h1.lt j hj)),fun i hi=>((h2 i hi).mono fun b hq=>hk b (hq.elim Or.inl fun x=>Or.inr ⟨x.1,x.2.1⟩)).sub fun b hq=>?_⟩
 exact hq.elim Or.inl fun x=>Or.inr ⟨x.1,by omega,x.2.2⟩
theorem aCK.at{w:World}{B tc:Nat}{P:Nat→Prop}{ts:List T}{ta:Option Addr}(h:aCK w B P ts (.slice ta ts.length tc))(i:Nat)(hi:i<ts.length):
  ∃(g:Nat) (fa:Option Addr) (fc:Nat),ta=some ⟨g,0,none⟩∧B≤g∧g<w.heap.size∧w.cell? ⟨g,i*3,none⟩=some (.string (tth ts i).name)∧w.cell? ⟨g,i*3+1,none⟩=some (.string (tth ts i).key)∧w.cell? ⟨g,i*3+2,none⟩=some (.slice fa (tth ts i).fields.length fc)∧
   (∀j,w.frozen? ⟨g,j,none⟩=false)∧TRep w (Off P B w (.slice ta ts.length tc)) (tth ts i) (.agg #[.string (tth ts i).name,.string (tth ts i).key,.slice fa (tth ts i).fields.length fc]):=by
 obtain⟨C,h1,h2⟩:=h
 obtain⟨g,rfl⟩:∃g,ta=some ⟨g,0,none⟩:=by
  obtain⟨-,⟨e,h0⟩| ⟨g,cap,cur,e,-⟩⟩:=h1
  ·simp only[Value.slice.injEq] at e
   omega
  ·simp only[Value.slice.injEq] at e
   exact⟨g,e.1⟩
 have hr:=h2 i hi
 have hr':=hr
 obtain⟨fa,fc,e,-⟩:=hr
 rw[e] at hr'
 simp only[Value.agg.injEq,Array.mk.injEq,List.cons.injEq,and_true] at e
 obtain⟨e0,e1,e2⟩:=e
 have hc:∀j,j<3→w.cell? ⟨g,i*3+j,none⟩=some (C i j):=fun j hj=>(h1.cellAt (i*3+j) (by omega)).trans (aGZ C _ i j hi hj)
 exact⟨g,fa,fc,rfl,(h1.lt g rfl).1,(h1.lt g rfl).2,by rw[←e0];exact hc 0 (by omega),by rw[←e1];exact hc 1 (by omega),by rw[←e2];exact hc 2 (by omega),fun j=>h1.frozenAt j,hr'⟩
def aGG(X:World)(A B:Nat)(ts:List T)(W:World):Prop:=∃(ta:Option Addr) (tc:Nat),W.heap[X.heap.size]?=some (.cells #[.string ⟨#[97]⟩,.slice ta ts.length tc] 46 (0,0))∧aCK W (X.heap.size+1) (fun b=>A≤b∧b<B) ts (.slice ta ts.length tc)∧Below X.heap.size X W∧X.heap.size+1≤W.heap.size
theorem aGG.keep{X W W':World}{A B:Nat}{ts:List T}(h:aGG X A B ts W)(hB:B≤X.heap.size)(hb:Below W.heap.size W W'):aGG X A B ts W':=by
 obtain⟨ta,tc,h1,h2,h3,h4⟩:=h
 exact⟨ta,tc,(hb.block _ (by omega)).trans h1,h2.keep (fun b hq=>by have:b<B:=hq.2;omega) hb,h3.trans (hb.mono (by omega)),Nat.le_trans h4 hb.size⟩
def aEM(X:World)(A B:Nat)(ts:List T)(bt:Nat)(cs:Array Value)(W:World):Prop:=∃(ta:Option Addr) (tc:Nat),W.heap[X.heap.size]?=some (.cells #[.string ⟨#[97]⟩,.slice ta ts.length tc] 46 (0,0))∧aCK W (X.heap.size+1) (fun b=>A≤b∧b<B) ts (.slice ta ts.length tc)∧Below X.heap.size X W∧X.heap.size+1≤W.heap.size∧(Value.slice ta ts.length tc).ownBlock≠some bt∧W.heap[bt]?=some (.cells cs 96 (0,0))∧X.heap.size<bt∧bt<W.heap.size
theorem aEM.st{X W:World}{A B bt:Nat}{ts:List T}{cs:Array Value}(h:aEM X A B ts bt cs W):aGG X A B ts W:=by
 obtain⟨ta,tc,h1,h2,h3,h4,-⟩:=h
 exact⟨ta,tc,h1,h2,h3,h4⟩
theorem aEM.keep{X W W':World}{A B bt:Nat}{ts:List T}{cs:Array Value}(h:aEM X A B ts bt cs W)(hB:B≤X.heap.size)(hb:Below W.heap.size W W'):aEM X A B ts bt cs W':=by
 obtain⟨ta,tc,h1,h2,h3,h4,h5,h6,h7,h8⟩:=h
 exact⟨ta,tc,(hb.block _ (by omega)).trans h1,h2.keep (fun b hq=>by have:b<B:=hq.2;omega) hb,h3.trans (hb.mono (by omega)),Nat.le_trans h4 hb.size,h5,(hb.block _ h8).trans h6,h7,Nat.lt_of_lt_of_le h8 hb.size⟩
theorem aGG.box{X W:World}{A B:Nat}{ts:List T}(h:aGG X A B ts W)(hB:B≤X.heap.size)(cs:Array Value):aEM X A B ts W.heap.size cs (W.alloc (.cells cs 96)):=by
 obtain⟨ta,tc,h1,h2,h3,h4⟩:=h
 obtain⟨C,ho,hr⟩:=h2
 refine⟨ta,tc,?_,?_,?_,?_,fun e=>absurd (ho.lt _ e).2 (Nat.lt_irrefl _),aA3 _ _ rfl,h4,by simp⟩
 ·exact((aA2 W _).block _ h4).trans h1
 ·exact aCK.keep ⟨C,ho,hr⟩ (fun b hq=>by have:b<B:=hq.2;omega) (aA2 W _)
 ·exact h3.trans ((aA2 W _).mono (by omega))
 ·simp;omega
theorem aEM.put{X W:World}{A B bt g tc k:Nat}{ts:List T}{cs:Array Value}(hbox:W.heap[X.heap.size]?=some (.cells #[.string ⟨#[97]⟩,.slice (some ⟨g,0,none⟩) ts.length tc] 46 (0,0)))(hrow:aCK W (X.heap.size+1) (fun b=>A≤b∧b<B) ts (.slice (some ⟨g,0,none⟩) ts.length tc))(hbX:Below X.heap.size X W)(hs:X.heap.size+1≤W.heap.size)(hne:g≠bt)(htb:W.heap[bt]?=some (.cells cs 96 (0,0)))(hxb:X.heap.size<bt)(hbl:bt<W.heap.size)(hB:B≤X.heap.size)(hg:X.heap.size+1≤g)(hk:k<ts.length)(t:T)(d0 d1 d2:Value)(ht:TRep W (Off (fun b=>A≤b∧b<B) (X.heap.size+1) W (.slice (some ⟨g,0,none⟩) ts.length tc)) t (.agg #[d0,d1,d2])):
  aEM X A B (ts.set k t) bt cs (((W.setCell ⟨g,k*3,none⟩ d0).setCell ⟨g,k*3+1,none⟩ d1).setCell ⟨g,k*3+2,none⟩ d2):=by
 have hbk:∀b,b≠g→(((W.setCell ⟨g,k*3,none⟩ d0).setCell ⟨g,k*3+1,none⟩ d1).setCell ⟨g,k*3+2,none⟩ d2).heap[b]?=W.heap[b]?:=fun b hb=>((Below.heap_setCell _ _ _ _ hb).trans (Below.heap_setCell _ _ _ _ hb)).trans (Below.heap_setCell _ _ _ _ hb)
 have hsz:(((W.setCell ⟨g,k*3,none⟩ d0).setCell ⟨g,k*3+1,none⟩ d1).setCell ⟨g,k*3+2,none⟩ d2).heap.size=W.heap.size:=by simp
 have hT:=hrow.put (k:=k) rfl hk (fun b hq=>by have:b<B:=hq.2;omega) t d0 d1 d2 ht
 refine⟨some ⟨g,0,none⟩,tc,?_,?_,?_,by rw[hsz];exact hs,?_,?_,hxb,by rw[hsz];exact hbl⟩
 ·rw[List.length_set];exact(hbk _ (by omega)).trans hbox
 ·rw[List.length_set];exact hT
 ·have hgx:X.heap.size≤g:=by omega
  exact((hbX.setCell (p:=⟨g,k*3,none⟩) hgx _).setCell (p:=⟨g,k*3+1,none⟩) hgx _).setCell (p:=⟨g,k*3+2,none⟩) hgx _
 ·intro e;exact hne (Option.some.inj e)
 ·exact(hbk _ (Ne.symm hne)).trans htb
theorem aAZ.low{w:World}{A B:Nat}{ps:List Pt}{a:Option Addr}(h:aAZ w (fun b=>A≤b∧b<B) ps a):aAZ w (·<B) ps a:=h.sub fun _ hb=>hb.2
theorem aAZ.underA{w w':World}{A B:Nat}{ps:List Pt}{a:Option Addr}(h:aAZ w (fun b=>A≤b∧b<B) ps a)(hb:Below B w w'):aAZ w' (fun b=>A≤b∧b<B) ps a:=h.mono fun k hk=>hb.block k hk.2
theorem aCP.atA{w:World}{A B:Nat}{ts:List T}{ta:Option Addr}(h:aCP w (fun b=>A≤b∧b<B) ts ta)(hB:B≤w.heap.size)(k:Nat)(hk:k<ts.length):∃(b off:Nat) (fa:Option Addr) (fc:Nat),ta=some ⟨b,off,none⟩∧
  TRep w (fun b=>A≤b∧b<B) (tth ts k) (.agg #[.string (tth ts k).name,.string (tth ts k).key,.slice fa (tth ts k).fields.length fc])∧
  ∀W,Below w.heap.size w W→W.cell? ⟨b,off+k*3,none⟩=some (.string (tth ts k).name)∧W.cell? ⟨b,off+k*3+1,none⟩=some (.string (tth ts k).key)∧W.cell? ⟨b,off+k*3+2,none⟩=some (.slice fa (tth ts k).fields.length fc):=by
 obtain⟨-,C,hA,hr⟩:=h
 obtain⟨b,off,rfl,⟨-,hbB⟩,hc⟩:=hA (by omega)
 have hkt:=hr k hk
 obtain⟨fa,fc,e0,e1,e2,-⟩:=(hr k hk).parts
 rw[e0,e1,e2] at hkt
 refine⟨b,off,fa,fc,rfl,hkt,fun W hb=>?_⟩
 have hck:∀j,j<3→W.cell? ⟨b,off+k*3+j,none⟩=some (C k j):=fun j hj=>(hb.cell (p:=⟨b,off+k*3+j,none⟩) (by show b<_;omega)).trans (hc k hk j hj)
 have c0:W.cell? ⟨b,off+k*3,none⟩=some (C k 0):=hck 0 (by omega)
 rw[c0,hck 1 (by omega),hck 2 (by omega),e0,e1,e2]
 exact⟨rfl,rfl,rfl⟩
theorem aAZ.atA{w:World}{A B:Nat}{ps:List Pt}{a:Option Addr}(h:aAZ w (fun b=>A≤b∧b<B) ps a)(i:Nat)(hi:i<ps.length):
  ∃(b off:Nat) (ta:Option Addr) (tc:Nat),a=some ⟨b,off,none⟩∧b<B∧w.cell? ⟨b,off+i*2,none⟩=some (.string (pth ps i).name)∧w.cell? ⟨b,off+i*2+1,none⟩=some (.slice ta (pth ps i).types.length tc)∧PRep w (fun b=>A≤b∧b<B) (pth ps i) (.agg #[.string (pth ps i).name,.slice ta (pth ps i).types.length tc]):=by
 obtain⟨-,C,hA,hr⟩:=h
 obtain⟨b,off,rfl,hb,hc⟩:=hA (by omega)
 have hp:=hr i hi
 obtain⟨ta,tc,e,-⟩:=hp
 simp only[Value.agg.injEq,Array.mk.injEq,List.cons.injEq,and_true] at e
 refine⟨b,off,ta,tc,rfl,hb.2,?_,?_,?_⟩
 ·rw[←e.1];exact hc i hi 0 (by omega)
 ·rw[←e.2];exact hc i hi 1 (by omega)
 ·rw[←e.1,←e.2];exact hr i hi
theorem aBE.atF{w:World}{A B:Nat}{fs:List F}{a:Option Addr}(h:aBE w (fun b=>A≤b∧b<B) fs a)(n:Nat)(hn:n<fs.length):
  ∃(b off:Nat) (na:Option Addr) (nc:Nat),a=some ⟨b,off,none⟩∧b<B∧(∀j,j<8→w.cell? ⟨b,off+n*8+j,none⟩=some ([Value.string (fth fs n).name,.string (fth fs n).of,.bool (fth fs n).list,.bool (fth fs n).must,.bool (fth fs n).far,.bool (fth fs n).hidden,.bool (fth fs n).shared,.slice na (fth fs n).needs.length nc].getD j undef))∧FRep w (fun b=>A≤b∧b<B) (fth fs n) (fval (fth fs n) na nc):=by
 obtain⟨-,C,hA,hr⟩:=h
 obtain⟨b,off,rfl,hb,hc⟩:=hA (by omega)
 have hr':=hr n hn
 obtain⟨na,nc,e,-⟩:=hr n hn
 rw[e] at hr'
 refine⟨b,off,na,nc,rfl,hb.2,fun j hj=>?_,hr'⟩
 rw[hc n hn j hj]
 simp only[Value.agg.injEq,Array.mk.injEq,List.cons.injEq,and_true] at e
 obtain⟨e0,e1,e2,e3,e4,e5,e6,e7⟩:=e
 rcases j with _| _| _| _| _| _| _| _| j
 ·simp[e0]
 ·simp[e1]
 ·simp[e2]
 ·simp[e3]
 ·simp[e4]
 ·simp[e5]
 ·simp[e6]
 ·simp[e7]
 ·omega
theorem aQ1{w:World}{P:Nat→Prop}{p:Pt}{v:Value}(h:PRep w P p v)(nm:ByteArray):(aA7 p nm).key.size≤maxLen:=by
 obtain⟨ta,tc,-,⟨-,C,-,hr⟩,-⟩:=h
 have hz:∀i,(tth p.types i).key.size≤maxLen:=fun i=>by
  by_cases hi:i<p.types.length
  ·obtain⟨_,_,-,-,-,-,hk⟩:=hr i hi
   exact hk
  ·have:tth p.types i=T.zero:=by simp[tth,List.getD_eq_getElem?_getD,List.getElem?_eq_none (Nat.le_of_not_lt hi)]
   rw[this]
   exact Nat.zero_le _
 unfold aA7
 split
 ·exact hz _
 ·exact Nat.zero_le _
theorem aQA{w:World}{P:Nat→Prop}{ps:List Pt}{a:Option Addr}(h:aAZ w P ps a)(nm:ByteArray):(keyM ps nm).size≤maxLen:=by
 unfold keyM
 split
 ·rename_i hx
  have hk:aNB ps nm=aA9 (fun i=>!(aA7 (pth ps i) nm).key.toList.isEmpty) ps.length:=rfl
  rcases aA8 (fun i=>!(aA7 (pth ps i) nm).key.toList.isEmpty) ps.length with⟨h2,-⟩| ⟨g,h2,hg,-,-⟩
  ·rw[hk,h2] at hx;omega
  ·rw[hk,h2]
   obtain⟨-,C,-,hr⟩:=h
   exact aQ1 (hr g hg) nm
 ·exact Nat.zero_le _
theorem aVE:(Tryz.prog.info? 96).map (fun i=>(i.zero.map fun z=>z.cells.size,i.size,i.bytes))=some (some 3,3,56):=by kernel_rfl
theorem aJT:∃(i:TypeInfo) (z:Value),Tryz.prog.info? 96=some i∧i.zero=some z∧i.size=3∧i.bytes=56∧z.cells.size=3:=by
 have h:=aVE
 cases hi:Tryz.prog.info? 96 with
 |none=>rw[hi] at h;cases h
 |some i=>
  rw[hi] at h
  simp only[Option.map_some,Option.some.injEq,Prod.mk.injEq] at h
  obtain⟨h1,h2,h3⟩:=h
  cases hz:i.zero with
  |none=>rw[hz] at h1;cases h1
  |some z=>
   rw[hz] at h1
   simp only[Option.map_some,Option.some.injEq] at h1
   exact⟨i,z,rfl,hz,h2,h3,h1⟩
theorem aEM.push{X W W':World}{A B bt gF capF tc:Nat}{ts:List T}{ta:Option Addr}{cs:Array Value}{C:Nat→Nat→Value}(hbox:W.heap[X.heap.size]?=some (.cells #[.string ⟨#[97]⟩,.slice ta ts.length tc] 46 (0,0)))(ho:W.ownsRow (X.heap.size+1) 96 3 (.slice ta ts.length tc) ts.length (aD7 C ts.length))(h2:∀i,i<ts.length→TRep W (Off (fun b=>A≤b∧b<B) (X.heap.size+1) W (.slice ta ts.length tc)) (tth ts i) (.agg #[C i 0,C i 1,C i 2]))
  (hbX:Below X.heap.size X W) (hs:X.heap.size+1≤W.heap.size) (hne:(Value.slice ta ts.length tc).ownBlock≠some bt) (htb:W.heap[bt]?=some (.cells cs 96 (0,0))) (hxb:X.heap.size<bt) (hbl:bt<W.heap.size) (hB:B≤X.heap.size) (t:T) (d0 d1 d2:Value) (ht:TRep W (Off (fun b=>A≤b∧b<B) (X.heap.size+1) W (.slice ta ts.length tc)) t (.agg #[d0,d1,d2]))
  (oF:W'.ownsRow (X.heap.size+1) 96 3 (.slice (some ⟨gF,0,none⟩) (ts.length+1) capF) (ts.length+1) (aD7 C ts.length++[d0,d1,d2])) (hg:W.grownBy W' (Value.slice ta ts.length tc).ownBlock) (hob:(Value.slice (some ⟨gF,0,none⟩) (ts.length+1) capF).ownBlock=(Value.slice ta ts.length tc).ownBlock∨(Value.slice (some ⟨gF,0,none⟩) (ts.length+1) capF).ownBlock=some W.heap.size):
  aEM X A B (ts++[t]) bt cs (W'.setCell ⟨X.heap.size,1,none⟩ (.slice (some ⟨gF,0,none⟩) (ts.length+1) capF)):=by
 have hlt:=ho.lt
 have hk:∀b,b<W.heap.size→(Value.slice ta ts.length tc).ownBlock≠some b→W'.heap[b]?=W.heap[b]?:=fun b hb hn=>hg.block b hb (fun e=>hn e.symm)
 have hT:=aCK.push (w':=W') (v':=.slice (some ⟨gF,0,none⟩) (ts.length+1) capF) h2 (fun b hq=>by have:b<B:=hq.2;omega) (fun b hq=>by have:b<B:=hq.2;omega) t d0 d1 d2 ht oF hk hg.size (fun b e=>by
  rcases hob with h| h
  ·exact Or.inl (h.symm.trans e)
  ·rw[h] at e
   exact Or.inr (Nat.le_of_eq (Option.some.inj e))) (fun b e=>(hlt b e).1)
 have hx0:W'.heap[X.heap.size]?=some (.cells #[.string ⟨#[97]⟩,.slice ta ts.length tc] 46 (0,0)):=(hk _ (by omega) (fun e=>by have:=(hlt _ e).1;omega)).trans hbox
 have hl1:(ts++[t]).length=ts.length+1:=by simp
 refine⟨some ⟨gF,0,none⟩,capF,?_,?_,?_,?_,?_,?_,hxb,?_⟩
 ·rw[hl1]
  exact aAB hx0 1 _
 ·rw[hl1]
  refine hT.keepB (fun b hq=>Below.heap_setCell _ _ _ _ ?_) (by simp)
  rcases hq with h| h
  ·have:b<B:=h.2
   show b≠X.heap.size
   omega
  ·show b≠X.heap.size
   omega
 ·exact(hbX.grown hg (by omega) (fun k e=>by have:=(hlt k e).1;omega)).setCell (Nat.le_refl _) _
 ·have:=hg.size
  simp
  omega
 ·intro e
  rcases hob with h| h
  ·exact hne (h.symm.trans e)
  ·have e2:some W.heap.size=some bt:=h.symm.trans e
   have:=Option.some.inj e2
   omega
 ·refine(Below.heap_setCell _ _ _ _ ?_).trans ((hk bt hbl hne).trans htb)
  show bt≠X.heap.size
  omega
 ·have:=hg.size
  simp
  omega
end Go.Proofs.YtcebpkeiaiiphaaGreatDoor
namespace Go.Proofs.YtcebpkeiaiiphaaGreatDoor
open Go.RowKit
def aJF(f:F):F:=⟨f.name,f.of,f.list,f.must,f.far,f.hidden,f.shared,[]⟩
def aVM(f:F):F:=⟨f.name,f.of,f.list,f.must,false,false,false,[]⟩
def aAT(fs:List F):Nat→List F
 |0=>[]
 |k+1=>aAT fs k++if(fth fs k).hidden=true then[] else[aJF (fth fs k)]
def aLS(fs:List F):Nat→List F
 |0=>[]
 |k+1=>aLS fs k++if(fth fs k).hidden=true then[] else[aVM (fth fs k)]
theorem aFM(fs:List F):∀k,(aLS fs k).length≤k
 |0=>Nat.le_refl _
 |k+1=>by have:=aFM fs k;rw[aLS,List.length_append];split<;>simp<;>omega
theorem aFR(fs:List F):∀k,(aAT fs k).length=(aLS fs k).length
 |0=>rfl
 |k+1=>by rw[aAT,aLS,List.length_append,List.length_append,aFR fs k];split<;>simp
def nl(l:List UInt8):Nat:=l.countP (·==10)
end Go.Proofs.YtcebpkeiaiiphaaGreatDoor
namespace Go.Proofs.YtcebpkeiaiiphaaGreatDoor
open Go.RowKit Go.Maps
def aLO(f:F):List Value:=[.string f.name,.string f.of,.bool f.list,.bool f.must,.bool f.far,.bool f.hidden,.bool f.shared,.slice none 0 0]
def aHF:List F→List Value
 |[]=>[]
 |f::r=>aLO f++aHF r
theorem aMR:∀(a:List F) (f:F),aHF (a++[f])=aHF a++aLO f
 |[],f=>by simp[aHF]
 |x::r,f=>by rw[List.cons_append,aHF,aHF,aMR r f,List.append_assoc]
theorem aOF:∀(a:List F) (i j:Nat),i<a.length→j<8→(aHF a)[i*8+j]?=(aLO (fth a i))[j]?
 |[],i,j,h,_=>absurd h (Nat.not_lt_zero _)
 |x::r,0,j,_,hj=>by
  rw[aHF,Nat.zero_mul,Nat.zero_add,List.getElem?_append_left (by simp[aLO];omega)]
  rfl
 |x::r,i+1,j,h,hj=>by
  have hl:(aLO x).length=8:=rfl
  rw[aHF,List.getElem?_append_right (by rw[hl];omega),hl,show(i+1)*8+j- 8=i*8+j by omega,aOF r i j (by simpa using h) hj]
  simp[fth]
theorem aS3{W:World}{base n c:Nat}{a:Option Addr}{L:List F}(h:W.ownsRow base 80 8 (.slice a n c) L.length (aHF L))(hl:L.length≤1000000000)(hs:∀i,i<L.length→(fth L i).needs=[]∧(fth L i).name.size≤maxLen∧(fth L i).of.size≤maxLen):
  n=L.length∧L.length≤c∧aBE W (fun b=>base≤b∧b<W.heap.size) L a:=by
 have hr:∀i,i<L.length→FRep W (fun b=>base≤b∧b<W.heap.size) (fth L i) (.agg #[.string (fth L i).name,.string (fth L i).of,.bool (fth L i).list,.bool (fth L i).must,.bool (fth L i).far,.bool (fth L i).hidden,.bool (fth L i).shared,.slice none 0 0]):=fun i hi=>by
  obtain⟨h1,h2,h3⟩:=hs i hi
  refine⟨none,0,by rw[h1];rfl,?_,by rw[h1];exact Nat.le_refl _,h2,h3,by rw[h1];simp⟩
  rw[h1]
  exact⟨fun hn=>absurd rfl hn,fun j=>by simp[nth,maxLen],by simp[maxLen]⟩
 rcases h.2 with⟨e,h0⟩| ⟨g,cap,cur,e,hg,hh,hn,-⟩
 ·simp only[Value.slice.injEq] at e
  obtain⟨rfl,rfl,rfl⟩:=e
  exact⟨h0.symm,by omega,by omega,fun i j=>(aLO (fth L i)).getD j undef,fun hp=>by omega,hr⟩
 ·simp only[Value.slice.injEq] at e
  obtain⟨rfl,rfl,rfl⟩:=e
  have hlt:g<W.heap.size:=(Array.getElem?_eq_some_iff.1 hh).1
  refine⟨rfl,by omega,by omega,fun i j=>(aLO (fth L i)).getD j undef,fun _=>⟨g,0,rfl,⟨hg,hlt⟩,fun i hi j hj=>?_⟩,hr⟩
  rw[Nat.zero_add,h.cellAt (i*8+j) (by omega),aOF L i j hi hj]
  show _=some ((aLO (fth L i)).getD j undef)
  rw[List.getD_eq_getElem?_getD,List.getElem?_eq_getElem (by simp[aLO];omega)]
  rfl
theorem aKO{P:F→Prop}{fs:List F}:∀k,(∀j,j<k→P (aJF (fth fs j)))→∀i,i<(aAT fs k).length→P (fth (aAT fs k) i)
 |0,_,i,hi=>absurd hi (Nat.not_lt_zero _)
 |k+1,h,i,hi=>by
  have ih:=aKO k fun j hj=>h j (by omega)
  rw[aAT] at hi ⊢
  cases hh:(fth fs k).hidden
  ·rw[hh] at hi
   simp only[Bool.false_eq_true,if_false,List.length_append,List.length_singleton] at hi ⊢
   by_cases e:i<(aAT fs k).length
   ·rw[aG9 _ _ _ e];exact ih i e
   ·have:i=(aAT fs k).length:=by omega
    subst this
    rw[aGC]
    exact h k (by omega)
  ·rw[hh] at hi
   simp only[if_true,List.append_nil] at hi ⊢
   exact ih i hi
set_option maxRecDepth 20000 in
set_option maxHeartbeats 3200000 in
theorem aJY(t:T)(w:World)(B:Nat)(v:Value)(hT:TRep w (·<B) t v)(hB:B≤w.heap.size)(hz:szT t≤1048576):
  Calls Tryz.prog 56 #[v] w fun e w'=>∃(a:Option Addr) (c:Nat),e=.returned (.slice a (aAT t.fields t.fields.length).length c)∧Below w.heap.size w w'∧(aAT t.fields t.fields.length).length≤c∧aBE w' (fun b=>w.heap.size≤b∧b<w'.heap.size) (aAT t.fields t.fields.length) a:=by
 obtain⟨fa,fc,rfl,hF,hfc,hs1,hs2⟩:=hT
 obtain⟨tname,tkey,fs⟩:=t
 simp only at hF hfc hs1 hs2 ⊢
 have hfl:fs.length≤1048576:=by
  have h2:szT ⟨tname,tkey,fs⟩=tname.size+tkey.size+(fs.length+aBC fs fs.length):=rfl
  omega
 obtain⟨iF,zF,hiF,hF0,hF1,hF2,hFz⟩:=aDT
 have HSM:Hid (∀j,j<fs.length→(fth fs j).name.size≤maxLen∧(fth fs j).of.size≤maxLen):=aA0 fun j hj=>by
  obtain⟨-,C,-,hr⟩:=hF
  obtain⟨_,_,_,_,_,h1,h2,_⟩:=hr j hj
  exact⟨h1,h2⟩
 have HF:Hid (∀W,Below w.heap.size w W→∀k,k<fs.length→∃(b off:Nat) (na:Option Addr) (nc:Nat),fa=some ⟨b,off,none⟩∧W.cell? ⟨b,off+k*8,none⟩=some (.string (fth fs k).name)∧W.cell? ⟨b,off+k*8+1,none⟩=some (.string (fth fs k).of)∧W.cell? ⟨b,off+k*8+2,none⟩=some (.bool (fth fs k).list)∧W.cell? ⟨b,off+k*8+3,none⟩=some (.bool (fth fs k).must)∧W.cell? ⟨b,off+k*8+4,none⟩=some (.bool (fth fs k).far)∧W.cell? ⟨b,off+k*8+5,none⟩=some (.bool (fth fs k).hidden)∧W.cell? ⟨b,off+k*8+6,none⟩=some (.bool (fth fs k).shared)∧W.cell? ⟨b,off+k*8+7,none⟩=some (.slice na (fth fs k).needs.length nc)):=aA0 fun W hW k hk=>by
  obtain⟨b,off,na,nc,e,-,hc⟩:=hF.at hB k hk
  exact⟨b,off,na,nc,e,hc W hW⟩
 clear hF hz
 go_enter Tryz.func56,Tryz.ntmps56
 go_wp2_with fail
 go_loopw [3,9] (fun y i wr=>∃(k:Nat) (L:List F) (oa:Option Addr) (oc:Nat),k≤fs.length∧y=.slice oa L.length oc∧i=.int .i64 k∧Hid (L=aAT fs k)∧Hid (wr.ownsRow w.heap.size 80 8 (.slice oa L.length oc) L.length (aHF L))∧Below w.heap.size w wr) (fun _ i _=>fs.length- (intOf i).toNat)
 case atStart=>exact⟨0,[],none,0,Nat.zero_le _,rfl,rfl,aA0 rfl,aA0 (World.ownsRow_nil _ _ _ _),aA2 _ _⟩
 case round=>
  obtain⟨k,L,oa,oc,hk,rfl,rfl,HL,HR,hb⟩:=hrel
  obtain⟨w0,rfl⟩:∃x,x=wr:=⟨wr,rfl⟩
  have z0:=hb.size
  by_cases hlt:k<fs.length
  case neg=>
   have e:k=fs.length:=by omega
   have hki:¬(k:Int)<(fs.length:Int):=by omega
   have HFIN:Hid (∃(a:Option Addr) (c:Nat),Ending.returned (.slice oa L.length oc)=.returned (.slice a (aAT fs fs.length).length c)∧Below w.heap.size w w0∧(aAT fs fs.length).length≤c∧aBE w0 (fun b=>w.heap.size≤b∧b<w0.heap.size) (aAT fs fs.length) a):=aA0 (by
    have hL:=HL.out
    rw[e] at hL
    have hlen:=aFR fs fs.length
    have hlen2:=aFM fs fs.length
    obtain⟨h1,h2,h3⟩:=aS3 HR.out (by rw[hL];omega) (by
     rw[hL]
     exact aKO (P:=fun f=>f.needs=[]∧f.name.size≤maxLen∧f.of.size≤maxLen) fs.length fun j hj=>⟨rfl,HSM.out j hj⟩)
    rw[←hL]
    exact⟨oa,oc,rfl,hb,h2,h3⟩)
   go_wp2_with fail
   go_ret
   exact HFIN.out
  case pos=>
   have hki:(k:Int)<(fs.length:Int):=by omega
   obtain⟨b,off,na,nc,rfl,c0,c1,c2,c3,c4,c5,c6,c7⟩:=HF.out w0 hb k hlt
   have HLL:Hid (L.length≤1048576):=aA0 (by rw[HL.out];have:=aFR fs k;have:=aFM fs k;omega)
   have HSU:Hid (aAT fs (k+1)=L++if(fth fs k).hidden=true then[] else[aJF (fth fs k)]):=aA0 (by rw[HL.out];rfl)
   generalize fth fs k=f at*
   obtain⟨fn,fo,fl,fm,ff,fh,fsh,fnd⟩:=f
   simp only at c0 c1 c2 c3 c4 c5 c6 c7 HSU
   cases fh
   rotate_left
   ·have HN:Hid (L=aAT fs (k+1)):=aA0 (by rw[HSU.out];simp)
    have bX:=aA2 w0 (.cells #[.string fn,.string fo,.bool fl,.bool fm,.bool ff,.bool true,.bool fsh,.slice na fnd.length nc] 80)
    have HRX:=aA0 (aAE HR.out bX)
    go_wp2_with fail
    go_roundw
    case rel=>exact⟨k+1,L,oa,oc,by omega,rfl,by go_num,HN,HRX,hb.trans (bX.mono z0)⟩
    case measure=>simp[intOf];omega
   ·have bX:=aA2 w0 (.cells #[.string fn,.string fo,.bool fl,.bool fm,.bool ff,.bool false,.bool fsh,.slice na fnd.length nc] 80)
    have nX:=aA3 (w:=w0) (N:=w0.heap.size) #[.string fn,.string fo,.bool fl,.bool fm,.bool ff,.bool false,.bool fsh,.slice na fnd.length nc] 80 rfl
    have hXs:(w0.alloc (.cells #[.string fn,.string fo,.bool fl,.bool fm,.bool ff,.bool false,.bool fsh,.slice na fnd.length nc] 80)).heap.size=w0.heap.size+1:=by simp
    have HN:Hid (aAT fs (k+1)=L++[⟨fn,fo,fl,fm,ff,false,fsh,[]⟩]):=aA0 (by rw[HSU.out];rfl)
    have nY:=aA3 (w:=w0) (N:=w0.heap.size) #[.string fn,.string fo,.bool fl,.bool fm,.bool ff,.bool false,.bool fsh,.slice none 0 0] 80 rfl
    have bY:=aA2 w0 (.cells #[.string fn,.string fo,.bool fl,.bool fm,.bool ff,.bool false,.bool fsh,.slice none 0 0] 80)
    have hYs:(w0.alloc (.cells #[.string fn,.string fo,.bool fl,.bool fm,.bool ff,.bool false,.bool fsh,.slice none 0 0] 80)).heap.size=w0.heap.size+1:=by simp
    go_upto_region 7 with fail
    clear c0 c1 c2 c3 c4 c5 c6 c7
    generalize w0.alloc (.cells #[.string fn,.string fo,.bool fl,.bool fm,.bool ff,.bool false,.bool fsh,.slice none 0 0] 80)=Y at*
    have rY:=aAE HR.out bY
    have bA:=aA2 Y (.cells #[.string fn,.string fo,.bool fl,.bool fm,.bool ff,.bool false,.bool fsh,.slice none 0 0] 80)
    have nA:=aA3 (w:=Y) (N:=w0.heap.size+1) #[.string fn,.string fo,.bool fl,.bool fm,.bool ff,.bool false,.bool fsh,.slice none 0 0] 80 hYs
    have rA:=aAE rY bA
    have zA:(Y.alloc (.cells #[.string fn,.string fo,.bool fl,.bool fm,.bool ff,.bool false,.bool fsh,.slice none 0 0] 80)).heap.size=Y.heap.size+1:=by simp
    have bZ:=hb.trans ((bY.trans (bA.mono (by omega))).mono z0)
    obtain⟨y0,-⟩:=aA1 nY 0 (by simp)
    obtain⟨y1,-⟩:=aA1 nY 1 (by simp)
    obtain⟨y2,-⟩:=aA1 nY 2 (by simp)
    obtain⟨y3,-⟩:=aA1 nY 3 (by simp)
    obtain⟨y4,-⟩:=aA1 nY 4 (by simp)
    obtain⟨y5,-⟩:=aA1 nY 5 (by simp)
    obtain⟨y6,-⟩:=aA1 nY 6 (by simp)
    obtain⟨y7,-⟩:=aA1 nY 7 (by simp)
    simp only[List.getElem_toArray,List.getElem_cons_zero,List.getElem_cons_succ] at y0 y1 y2 y3 y4 y5 y6 y7
    have hLL:=HLL.out
    obtain⟨n,hn⟩:∃n,n=L.length:=⟨_,rfl⟩
    obtain⟨xs,hxs⟩:∃xs,xs=aHF L:=⟨_,rfl⟩
    have HEND:Hid (∀g cap wF,wF.ownsRow w.heap.size 80 8 (.slice (some ⟨g,0,none⟩) (n+1) cap) (n+1) (xs++[.string fn,.string fo,.bool fl,.bool fm,.bool ff,.bool false,.bool fsh,.slice none 0 0])→(Y.alloc (.cells #[.string fn,.string fo,.bool fl,.bool fm,.bool ff,.bool false,.bool fsh,.slice none 0 0] 80)).grownBy wF (Value.slice oa n oc).ownBlock→∃L':List F,n+1=L'.length∧Hid (L'=aAT fs (k+1))∧Hid (wF.ownsRow w.heap.size 80 8 (.slice (some ⟨g,0,none⟩) L'.length cap) L'.length (aHF L'))∧Below w.heap.size w wF):=aA0 fun g cap wF ho hg=>by
     refine⟨L++[⟨fn,fo,fl,fm,ff,false,fsh,[]⟩],by rw[hn];simp,aA0 HN.out.symm,aA0 ?_,bZ.grown hg (by omega) fun b hb=>?_⟩
     ·rw[List.length_append,List.length_singleton,aMR,←hn,←hxs]
      exact ho
     ·rw[hn] at hb;exact(HR.out.lt b hb).1
    rw[←hn,←hxs] at rA
    rw[←hn] at hLL ⊢
    replace hn:=aA0 hn
    replace hxs:=aA0 hxs
    clear bX nX hXs nY bY rY bA bZ
    go_wp2_with (
     at_builtin
     refine wpList_append_lies _ rfl _ _ 94 rfl w.heap.size 80 iF zF 8 64 Tryz.underlying94 hiF hF0 hF1 hF2 hFz (by decide) (.slice oa n oc) n xs rfl rA ⟨w0.heap.size+1,0,none⟩ 1 1 [.string fn,.string fo,.bool fl,.bool fm,.bool ff,.bool false,.bool fsh,.slice none 0 0] rfl rfl (World.news_of_block nA) (by intro u hu;simp at hu;rcases hu with rfl| rfl| rfl| rfl| rfl| rfl| rfl| rfl<;>rfl) (by omega) (by unfold maxLen;omega) (by omega) (by omega) (w0.heap.size+1+1) (by omega) ?_
     intro g cap wF ho hg hor hlt1
     obtain⟨L',hL1,HL2,HL3,bF⟩:=HEND.out g cap wF ho hg
     clear ho hg hor)
    go_roundw
    case rel=>exact⟨k+1,L',some ⟨g,0,none⟩,cap,by omega,rfl,by go_num,HL2,HL3,bF⟩
    case measure=>simp[intOf];omega
end Go.Proofs.YtcebpkeiaiiphaaGreatDoor
