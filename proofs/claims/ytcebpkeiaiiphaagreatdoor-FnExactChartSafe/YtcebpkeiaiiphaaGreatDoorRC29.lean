import Derived.Test.YtcebpkeiaiiphaaGreatDoorRC26
set_option linter.unusedSimpArgs false
set_option linter.unusedVariables false
namespace Go.Proofs.YtcebpkeiaiiphaaGreatDoor
open Go.RowKit
structure Su where
 tn:List ByteArray
 tf:ByteArray->List ByteArray
 ky:ByteArray->List ByteArray
 sd:ByteArray->ByteArray->List F
 ow:ByteArray->ByteArray->List Nat
def Su.zero:Su:=⟨[],fun _=>[],fun _=>[],fun _ _=>[],fun _ _=>[]⟩
def Su.key(X:Su)(t:T):Su:=if t.key.toList.isEmpty=true then X else { X with ky:=fun m=>if m=t.name then X.ky m++[t.key] else X.ky m }
def Su.fld(X:Su)(i:Nat)(nm:ByteArray)(f:F):Su where
 tn:=if(X.sd nm f.name).length=0∧(X.tf nm).length=0 then X.tn++[nm] else X.tn
 tf:=if(X.sd nm f.name).length=0 then(fun m=>if m=nm then X.tf m++[f.name] else X.tf m) else X.tf
 ky:=X.ky
 sd:=fun m n=>if m=nm∧n=f.name then X.sd m n++[f] else X.sd m n
 ow:=if f.far=true then X.ow else fun m n=>if m=nm∧n=f.name then X.ow m n++[i] else X.ow m n
def Su.flds(X:Su)(i:Nat)(t:T):Nat->Su
 |0=>X
 |l+1=>(X.flds i t l).fld i t.name (fth t.fields l)
def Su.look(X:Su)(i:Nat)(t:T):Su:=(X.key t).flds i t t.fields.length
def Su.tys(X:Su)(i:Nat)(p:Pt):Nat->Su
 |0=>X
 |k+1=>(X.tys i p k).look i (tth p.types k)
def suTo(ps:List Pt):Nat->Su
 |0=>Su.zero
 |i+1=>(suTo ps i).tys i (pth ps i) (pth ps i).types.length
def suM(ps:List Pt):Su:=suTo ps ps.length
theorem aQ0{p:Pt}(h:okP p=true){k l:Nat}(hk:k<p.types.length)(hl:l<(tth p.types k).fields.length):aAB (tth p.types k) (fth (tth p.types k).fields l).name=(l:Int):=by
 have hx:aAB (tth p.types k) (fth (tth p.types k).fields l).name=aA9 (fun i=>(fth (tth p.types k).fields i).name.toList==(fth (tth p.types k).fields l).name.toList) (tth p.types k).fields.length:=rfl;have h3:=(aCI (aEI h hk)).2.2;simp only[aCH,Bool.or_eq_false_iff] at h3;rcases aA8 (fun i=>(fth (tth p.types k).fields i).name.toList==(fth (tth p.types k).fields l).name.toList) (tth p.types k).fields.length with⟨h2,h4⟩| ⟨g,h2,hg,hq,h4⟩
 ·have:=h4 l hl;simp at this
 ·rw[hx,h2];by_cases e:g=l
  ·rw[e]
  ·exfalso
   have hgl:g<l:=by
    rcases Nat.lt_or_gt_of_ne e with h5| h5
    ·exact h5
    ·have:=h4 l h5;simp at this
   have h6:aCY (tth p.types k) (tth p.types k).fields.length=true:=by simpa using h3.2
   have h7:aN4 (tth p.types k) l=true:=by
    have:=List.all_eq_true.1 h6 l (by simpa using hl)
    exact this
   have h8:=aF7 (q:=fun j=>(fth (tth p.types k).fields j).name.toList==(fth (tth p.types k).fields l).name.toList) hgl hq;simp only[aN4,Bool.not_eq_true',decide_eq_false_iff_not] at h7;exact h7 h8
theorem aDC{t:T}{n:ByteArray}(h:0<=aAB t n):∃l:Nat,aAB t n=(l:Int)∧l<t.fields.length∧(fth t.fields l).name=n:=by
 have hx:aAB t n=aA9 (fun i=>(fth t.fields i).name.toList==n.toList) t.fields.length:=rfl;rcases aA8 (fun i=>(fth t.fields i).name.toList==n.toList) t.fields.length with⟨h2,-⟩| ⟨g,h2,hg,hq,-⟩
 ·rw[hx,h2] at h;omega
 ·exact⟨g,by rw[hx,h2],hg,aJT (by simpa using hq)⟩
theorem aC8{p:Pt}{n:ByteArray}(h:0<=aAR p n):∃k:Nat,aAR p n=(k:Int)∧k<p.types.length∧(tth p.types k).name=n:=by
 have hx:aAR p n=aA9 (fun i=>(tth p.types i).name.toList==n.toList) p.types.length:=rfl;rcases aA8 (fun i=>(tth p.types i).name.toList==n.toList) p.types.length with⟨h2,-⟩| ⟨g,h2,hg,hq,-⟩
 ·rw[hx,h2] at h;omega
 ·exact⟨g,by rw[hx,h2],hg,aJT (by simpa using hq)⟩
def tsay(t:T)(l:Nat)(n:ByteArray):List F:=if 0<=aAB t n∧aAB t n<(l:Int) then[aAT t n] else[]
def aL8(i:Nat)(L:List F):List Nat:=if(L.length=0∨(fth L 0).far=true) then[] else[i]
theorem aHA{t:T}{n:ByteArray}{l:Nat}(h:aAB t n=(l:Int)):aAT t n=fth t.fields l:=by
 unfold aAT;rw[h,if_pos (by omega),Int.toNat_natCast]
theorem aRB{p:Pt}(h:okP p=true){k:Nat}(hk:k<p.types.length)(X:Su)(i:Nat):∀l,l<=(tth p.types k).fields.length->∀nm n,(X.flds i (tth p.types k) l).sd nm n=X.sd nm n++(if nm=(tth p.types k).name then tsay (tth p.types k) l n else[])∧(X.flds i (tth p.types k) l).ow nm n=X.ow nm n++(if nm=(tth p.types k).name then aL8 i (tsay (tth p.types k) l n) else[])∧(X.flds i (tth p.types k) l).ky nm=X.ky nm
 |0,_,nm,n=>by
  have:tsay (tth p.types k) 0 n=[]:=by unfold tsay;rw[if_neg (by omega)]
  rw[this];simp[Su.flds,aL8]
 |l+1,hl,nm,n=>by
  obtain⟨h1,h2,h3⟩:=aRB h hk X i l (by omega) nm n
  have ho:=aQ0 h hk (l:=l) (by omega)
  simp only[Su.flds,Su.fld];rw[h1,h3];by_cases e:nm=(tth p.types k).name
  ·by_cases e2:n=(fth (tth p.types k).fields l).name
   ·have t0:tsay (tth p.types k) l n=[]:=by unfold tsay;rw[e2,ho,if_neg (by omega)]
    have t1:tsay (tth p.types k) (l+1) n=[fth (tth p.types k).fields l]:=by unfold tsay;rw[e2,ho,if_pos (by omega),aHA ho]
    rw[if_pos e] at h2;rw[t0,show aL8 i []=[] from rfl,List.append_nil] at h2
    rw[if_pos ⟨e,e2⟩,if_pos e,if_pos e,if_pos e,t0,t1];refine⟨by simp,?_,rfl⟩
    cases hf:(fth (tth p.types k).fields l).far
    ·rw[if_neg (by simp),if_pos ⟨e,e2⟩,h2]
     simp[aL8,fth,hf];simpa[fth] using hf
    ·rw[if_pos rfl,h2];simp[aL8,fth];simpa[fth] using hf
   ·have t1:tsay (tth p.types k) (l+1) n=tsay (tth p.types k) l n:=by
     unfold tsay;by_cases hp:0<=aAB (tth p.types k) n
     ·obtain⟨g,hg,hgl,hgn⟩:=aDC hp;have hne:g≠l:=fun e3=>e2 (by rw[<-hgn,e3])
      rw[hg];by_cases hlt:(g:Int)<(l:Int)
      ·rw[if_pos ⟨by omega,by omega⟩,if_pos ⟨by omega,hlt⟩]
      ·rw[if_neg (by omega),if_neg (by omega)]
     ·rw[if_neg (fun h=>hp h.1),if_neg (fun h=>hp h.1)]
    rw[if_pos e] at h2;rw[if_neg (fun h=>e2 h.2),t1,if_pos e];refine⟨rfl,?_,rfl⟩;split
    ·exact h2
    ·show(if nm=_∧n=_ then _ else _)=_
     rw[if_neg (fun h=>e2 h.2)];exact h2
  ·rw[if_neg (fun h=>e h.1)];rw[if_neg e] at h2 ⊢;rw[if_neg e];refine⟨rfl,?_,rfl⟩;split
   ·exact h2
   ·show(if nm=_∧n=_ then _ else _)=_
    rw[if_neg (fun h=>e h.1)];exact h2
def psay(p:Pt)(k:Nat)(nm n:ByteArray):List F:=if 0<=aAR p nm∧aAR p nm<(k:Int)∧sayB p nm n=true then[sayF p nm n] else[]
def pkey(p:Pt)(k:Nat)(nm:ByteArray):List ByteArray:=if 0<=aAR p nm∧aAR p nm<(k:Int)∧(aA5 p nm).key.toList.isEmpty=false then[(aA5 p nm).key] else[]
theorem aTB(t:T)(n:ByteArray):tsay t t.fields.length n=if 0<=aAB t n then[aAT t n] else[]:=by
 unfold tsay;by_cases h:0<=aAB t n
 ·obtain⟨l,hl,hlt,-⟩:=aDC h;rw[if_pos ⟨h,by omega⟩,if_pos h]
 ·rw[if_neg (fun e=>h e.1),if_neg h]
theorem aDT{p:Pt}{nm:ByteArray}{k:Nat}(h:aAR p nm=(k:Int)):aA5 p nm=tth p.types k:=by
 unfold aA5;rw[h,if_pos (by omega),Int.toNat_natCast]
theorem aUT(X:Su)(t:T)(nm n:ByteArray):(X.key t).sd nm n=X.sd nm n∧(X.key t).ow nm n=X.ow nm n∧(X.key t).ky nm=X.ky nm++(if nm=t.name∧t.key.toList.isEmpty=false then[t.key] else[]):=by
 unfold Su.key;by_cases h:t.key.toList.isEmpty=true
 ·rw[if_pos h,if_neg (by rw[h];simp)];simp
 ·have h':t.key.toList.isEmpty=false:=by simpa using h
  rw[if_neg h];refine⟨rfl,rfl,?_⟩;simp only[h'];by_cases e:nm=t.name
  ·rw[if_pos e,if_pos ⟨e,trivial⟩]
  ·rw[if_neg e,if_neg (fun h=>e h.1)];simp
theorem aTY{p:Pt}(h:okP p=true)(X:Su)(i:Nat):∀k,k<=p.types.length->∀nm n,(X.tys i p k).sd nm n=X.sd nm n++psay p k nm n∧(X.tys i p k).ow nm n=X.ow nm n++aL8 i (psay p k nm n)∧(X.tys i p k).ky nm=X.ky nm++pkey p k nm
 |0,_,nm,n=>by
  have h1:psay p 0 nm n=[]:=by unfold psay;rw[if_neg (by omega)]
  have h2:pkey p 0 nm=[]:=by unfold pkey;rw[if_neg (by omega)]
  rw[h1,h2];simp[Su.tys,aL8]
 |k+1,hk,nm,n=>by
  obtain⟨h1,h2,h3⟩:=aTY h X i k (by omega) nm n
  have hto:=aRI h (i:=k) (by omega)
  obtain⟨g1,g2,g3⟩:=aRB h (k:=k) (by omega) ((X.tys i p k).key (tth p.types k)) i _ (Nat.le_refl _) nm n
  obtain⟨q1,q2,q3⟩:=aUT (X.tys i p k) (tth p.types k) nm n;simp only[Su.tys,Su.look];rw[g1,g2,g3,q1,q2,q3,h1,h2,h3,aTB];by_cases e:nm=(tth p.types k).name
  ·subst e;have p0:psay p k (tth p.types k).name n=[]:=by unfold psay;rw[hto,if_neg (by omega)]
   have k0:pkey p k (tth p.types k).name=[]:=by unfold pkey;rw[hto,if_neg (by omega)]
   have p1:psay p (k+1) (tth p.types k).name n=if 0<=aAB (tth p.types k) n then[aAT (tth p.types k) n] else[]:=by
    unfold psay sayB sayF;rw[hto,aDT hto];by_cases hf:0<=aAB (tth p.types k) n
    ·rw[if_pos ⟨by omega,by omega,decide_eq_true hf⟩,if_pos hf]
    ·rw[if_neg (fun e=>by simp[hf] at e),if_neg hf]
   have k1:pkey p (k+1) (tth p.types k).name=if(tth p.types k).key.toList.isEmpty=false then[(tth p.types k).key] else[]:=by
    unfold pkey;rw[hto,aDT hto];by_cases hf:(tth p.types k).key.toList.isEmpty=false
    ·rw[if_pos ⟨by omega,by omega,hf⟩,if_pos hf]
    ·rw[if_neg (fun e=>hf e.2.2),if_neg hf]
   rw[p0,k0,p1,k1];simp[aL8]
  ·have p1:psay p (k+1) nm n=psay p k nm n∧pkey p (k+1) nm=pkey p k nm:=by
    unfold psay pkey;by_cases hp:0<=aAR p nm
    ·obtain⟨g,hg,hgl,hgn⟩:=aC8 hp;have hne:g≠k:=fun e3=>e (by rw[<-hgn,e3])
     have h9:(aAR p nm<((k+1:Nat):Int))↔(aAR p nm<(k:Int)):=by rw[hg];exact⟨fun _=>by omega,fun _=>by omega⟩
     refine⟨?_,?_⟩<;>simp only[h9]
    ·rw[if_neg (fun e=>hp e.1),if_neg (fun e=>hp e.1),if_neg (fun e=>hp e.1),if_neg (fun e=>hp e.1)];exact⟨rfl,rfl⟩
   rw[p1.1,p1.2,if_neg e,if_neg e,if_neg (fun h=>e h.1)];simp
def sdTo(ps:List Pt)(nm n:ByteArray):Nat->List F
 |0=>[]
 |i+1=>sdTo ps nm n i++if sayB (pth ps i) nm n=true then[sayF (pth ps i) nm n] else[]
def kyTo(ps:List Pt)(nm:ByteArray):Nat->List ByteArray
 |0=>[]
 |i+1=>kyTo ps nm i++if(aA5 (pth ps i) nm).key.toList.isEmpty=false then[(aA5 (pth ps i) nm).key] else[]
theorem aIN{p:Pt}{nm n:ByteArray}(h:sayB p nm n=true):0<=aAR p nm:=by
 by_cases e:0<=aAR p nm
 ·exact e
 ·exfalso
  unfold sayB aA5 at h;rw[if_neg e,decide_eq_true_eq] at h;obtain⟨l,-,hl,-⟩:=aDC h;simp[T.zero] at hl
theorem aTI(p:Pt)(nm n:ByteArray):psay p p.types.length nm n=if sayB p nm n=true then[sayF p nm n] else[]:=by
 unfold psay;by_cases h:sayB p nm n=true
 ·have h1:=aIN h;obtain⟨k,hk,hkl,-⟩:=aC8 h1;rw[if_pos ⟨h1,by omega,h⟩,if_pos h]
 ·rw[if_neg (fun e=>h e.2.2),if_neg h]
theorem aT3(p:Pt)(nm:ByteArray):pkey p p.types.length nm=if(aA5 p nm).key.toList.isEmpty=false then[(aA5 p nm).key] else[]:=by
 unfold pkey;by_cases h:(aA5 p nm).key.toList.isEmpty=false
 ·have h1:0<=aAR p nm:=by
   by_cases e:0<=aAR p nm
   ·exact e
   ·exfalso
    unfold aA5 at h;rw[if_neg e] at h;have h9:(T.zero.key.toList).isEmpty=true:=by rw[ByteArray.toList_eq];rfl
    rw[h9] at h;cases h
  obtain⟨k,hk,hkl,-⟩:=aC8 h1;rw[if_pos ⟨h1,by omega,h⟩,if_pos h]
 ·rw[if_neg (fun e=>h e.2.2),if_neg h]
theorem aHI{ps:List Pt}(h:∀i,i<ps.length->okP (pth ps i)=true):∀i,i<=ps.length->∀nm n,(suTo ps i).sd nm n=sdTo ps nm n i∧(suTo ps i).ow nm n=aBU ps nm n i∧(suTo ps i).ky nm=kyTo ps nm i
 |0,_,nm,n=>⟨rfl,rfl,rfl⟩
 |i+1,hi,nm,n=>by
  obtain⟨h1,h2,h3⟩:=aHI h i (by omega) nm n
  obtain⟨g1,g2,g3⟩:=aTY (h i (by omega)) (suTo ps i) i _ (Nat.le_refl _) nm n
  rw[suTo,g1,g2,g3,h1,h2,h3,aTI,aT3,sdTo,aBU,kyTo];refine⟨rfl,?_,rfl⟩
  congr 1
  unfold aGF aL8;by_cases hs:sayB (pth ps i) nm n=true
  ·rw[if_pos hs,hs];cases hf:(sayF (pth ps i) nm n).far
   ·rw[if_neg (by simp[fth,hf])];simp
   ·rw[if_pos (by simp[fth,hf])];simp
  ·have hs':sayB (pth ps i) nm n=false:=by simpa using hs
   rw[if_neg hs,hs'];simp
end Go.Proofs.YtcebpkeiaiiphaaGreatDoor
namespace Go.Proofs.YtcebpkeiaiiphaaGreatDoor
open Go.RowKit Go.Maps
def fcl(f:F)(na:Option Addr)(nc:Nat):List Value:=[.string f.name,.string f.of,.bool f.list,.bool f.must,.bool f.far,.bool f.hidden,.bool f.shared,.slice na f.needs.length nc]
def aCN(w:World)(P:Nat->Prop)(L:List F)(xs:List Value):Prop:=xs.length=L.length*8∧∀i,i<L.length->∃(na:Option Addr) (nc:Nat),(∀j,j<8->xs[i*8+j]?=(fcl (fth L i) na nc)[j]?)∧FRep w P (fth L i) (.agg (fcl (fth L i) na nc).toArray)
theorem aCN.mono{w w':World}{P:Nat->Prop}{L:List F}{xs:List Value}(h:aCN w P L xs)(e:∀k,P k->w'.heap[k]?=w.heap[k]?):aCN w' P L xs:=
 ⟨h.1,fun i hi=>by obtain⟨na,nc,h1,h2⟩:=h.2 i hi;exact⟨na,nc,h1,h2.mono e⟩⟩
theorem aCN.nil(w:World)(P:Nat->Prop):aCN w P [] []:=⟨rfl,fun i hi=>absurd hi (Nat.not_lt_zero _)⟩
theorem aCN.snoc{w:World}{P:Nat->Prop}{L:List F}{xs:List Value}(h:aCN w P L xs){f:F}{na:Option Addr}{nc:Nat}(hf:FRep w P f (.agg (fcl f na nc).toArray)):aCN w P (L++[f]) (xs++fcl f na nc):=by
 refine⟨by rw[List.length_append,List.length_append,h.1];simp[fcl];omega,fun i hi=>?_⟩
 rw[List.length_append,List.length_singleton] at hi;by_cases e:i<L.length
 ·have h1:fth (L++[f]) i=fth L i:=by simp[fth,List.getD_eq_getElem?_getD,List.getElem?_append_left e]
  obtain⟨na',nc',h2,h3⟩:=h.2 i e;rw[h1];exact⟨na',nc',fun j hj=>by rw[List.getElem?_append_left (by rw[h.1];omega)];exact h2 j hj,h3⟩
 ·have:i=L.length:=by omega
  subst this;have h1:fth (L++[f]) L.length=f:=by simp[fth,List.getD_eq_getElem?_getD]
  rw[h1];exact⟨na,nc,fun j hj=>by rw[List.getElem?_append_right (by rw[h.1];omega),h.1,Nat.add_sub_cancel_left],hf⟩
structure Su.Le(X:Su)(c:Nat):Prop where
 tn:X.tn.length<=c
 tf:∀nm,(X.tf nm).length<=c
 ky:∀nm,(X.ky nm).length<=c
 sd:∀nm n,(X.sd nm n).length<=c
 ow:∀nm n,(X.ow nm n).length<=c
theorem Su.Le.mono{X:Su}{c d:Nat}(h:X.Le c)(hd:c<=d):X.Le d:=⟨Nat.le_trans h.tn hd,fun a=>Nat.le_trans (h.tf a) hd,fun a=>Nat.le_trans (h.ky a) hd,fun a b=>Nat.le_trans (h.sd a b) hd,fun a b=>Nat.le_trans (h.ow a b) hd⟩
theorem Su.Le.key{X:Su}{c:Nat}(h:X.Le c)(t:T):(X.key t).Le (c+1):=by
 unfold Su.key;split
 ·exact h.mono (by omega)
 ·refine⟨Nat.le_succ_of_le h.tn,fun a=>Nat.le_succ_of_le (h.tf a),fun a=>?_,fun a b=>Nat.le_succ_of_le (h.sd a b),fun a b=>Nat.le_succ_of_le (h.ow a b)⟩;have:=h.ky a;simp only;split<;>simp<;>omega
def Su.fnm(X:Su)(nm n:ByteArray):Su:={ X with tn:=if(X.tf nm).length=0 then X.tn++[nm] else X.tn,tf:=fun m=>if m=nm then X.tf m++[n] else X.tf m }
def Su.fsd(X:Su)(nm:ByteArray)(f:F):Su:={ X with sd:=fun m n=>if m=nm∧n=f.name then X.sd m n++[f] else X.sd m n }
def Su.fow(X:Su)(i:Nat)(nm n':ByteArray):Su:={ X with ow:=fun m n=>if m=nm∧n=n' then X.ow m n++[i] else X.ow m n }
theorem aRX(X:Su)(i:Nat)(nm:ByteArray)(f:F):X.fld i nm f=(if f.far=true then((if(X.sd nm f.name).length=0 then X.fnm nm f.name else X).fsd nm f) else((if(X.sd nm f.name).length=0 then X.fnm nm f.name else X).fsd nm f).fow i nm f.name):=by
 unfold Su.fld Su.fnm Su.fsd Su.fow;by_cases h1:(X.sd nm f.name).length=0
 ·by_cases h2:f.far=true
  ·simp[h1,h2]
  ·simp[h1,h2]
 ·by_cases h2:f.far=true
  ·simp[h1,h2]
  ·simp[h1,h2]
theorem Su.Le.fnm{X:Su}{c:Nat}(h:X.Le c)(nm n:ByteArray):(X.fnm nm n).Le (c+1):=by
 refine⟨?_,fun a=>?_,fun a=>Nat.le_succ_of_le (h.ky a),fun a b=>Nat.le_succ_of_le (h.sd a b),fun a b=>Nat.le_succ_of_le (h.ow a b)⟩
 ·have:=h.tn;simp only[Su.fnm];split<;>simp<;>omega
 ·have:=h.tf a;simp only[Su.fnm];split<;>simp<;>omega
theorem Su.Le.fsd{X:Su}{c:Nat}(h:X.Le c)(nm:ByteArray)(f:F):(X.fsd nm f).Le (c+1):=by
 refine⟨Nat.le_succ_of_le h.tn,fun a=>Nat.le_succ_of_le (h.tf a),fun a=>Nat.le_succ_of_le (h.ky a),fun a b=>?_,fun a b=>Nat.le_succ_of_le (h.ow a b)⟩;have:=h.sd a b;simp only[Su.fsd];split<;>simp<;>omega
theorem Su.Le.fow{X:Su}{c:Nat}(h:X.Le c)(i:Nat)(nm n:ByteArray):(X.fow i nm n).Le (c+1):=by
 refine⟨Nat.le_succ_of_le h.tn,fun a=>Nat.le_succ_of_le (h.tf a),fun a=>Nat.le_succ_of_le (h.ky a),fun a b=>Nat.le_succ_of_le (h.sd a b),fun a b=>?_⟩;have:=h.ow a b;simp only[Su.fow];split<;>simp<;>omega
structure Sv where
 kv1:Value
 kv2:Value
 kv3:Value
 kv4:Value
 m1:Nat
 m2:Nat
 m3:Nat
 m4:Nat
 f1:Nat->Prop
 f2:Nat->Prop
 f3:Nat->Prop
 f4:Nat->Prop
 g1:Value->List Value
 g2:Value->List Value
 g3:Value->List Value
 g4:Value->List Value
 n2:Nat
 n3:Nat
 n4:Nat
 s2:List Value
 s3:List Value
 s4:List Value
def Sv.cells(V:Sv)(pv:Value):Array Value:=#[pv,V.kv1,.map (some V.m1),V.kv2,.map (some V.m2),V.kv3,.map (some V.m3),V.kv4,.map (some V.m4)]
def Sv.fp(V:Sv)(b:Nat):Prop:=V.f1 b∨V.f2 b∨V.f3 b∨V.f4 b
structure SuL(w:World)(P:Nat->Prop)(B:Nat)(X:Su)(c:Nat)(V:Sv):Prop where
 l1:Lst w V.f1 SKy B 9 1 9 1 V.kv1 V.m1 X.tn.length (X.tn.map Value.string) V.g1
 e1:∀nm,V.g1 (.string nm)=(X.tf nm).map Value.string
 l2:Lst w V.f2 SKy B 9 1 9 1 V.kv2 V.m2 V.n2 V.s2 V.g2
 c2:V.n2<=c
 e2:∀nm,V.g2 (.string nm)=(X.ky nm).map Value.string
 l3:Lst w V.f3 FKy B 153 2 80 8 V.kv3 V.m3 V.n3 V.s3 V.g3
 c3:V.n3<=c
 e3:∀nm n,aCN w P (X.sd nm n) (V.g3 (fk nm n))
 l4:Lst w V.f4 FKy B 153 2 3 1 V.kv4 V.m4 V.n4 V.s4 V.g4
 c4:V.n4<=c
 e4:∀nm n,V.g4 (fk nm n)=(X.ow nm n).map fun(k:Nat)=>Value.int .i64 (k:Int)
 le:X.Le c
 dis:∀b,(V.f1 b->¬V.f2 b∧¬V.f3 b∧¬V.f4 b)∧(V.f2 b->¬V.f3 b∧¬V.f4 b)∧(V.f3 b->¬V.f4 b)
theorem SuL.bd{w:World}{P:Nat->Prop}{B:Nat}{X:Su}{c:Nat}{V:Sv}(h:SuL w P B X c V):∀b,V.fp b->B<=b∧b<w.heap.size:=fun b hb=>by
 rcases hb with hb| hb| hb| hb
 ·exact h.l1.bd b hb
 ·exact h.l2.bd b hb
 ·exact h.l3.bd b hb
 ·exact h.l4.bd b hb
theorem SuL.keep{w w':World}{P:Nat->Prop}{B:Nat}{X:Su}{c:Nat}{V:Sv}(h:SuL w P B X c V)(hk:∀b,V.fp b->w'.heap[b]?=w.heap[b]?)(hP:∀b,P b->w'.heap[b]?=w.heap[b]?)(hs:w.heap.size<=w'.heap.size):SuL w' P B X c V:=
 ⟨h.l1.keep (fun b hb=>hk b (.inl hb)) hs,h.e1,h.l2.keep (fun b hb=>hk b (.inr (.inl hb))) hs,h.c2,h.e2,h.l3.keep (fun b hb=>hk b (.inr (.inr (.inl hb)))) hs,h.c3,fun nm n=>(h.e3 nm n).mono hP,h.l4.keep (fun b hb=>hk b (.inr (.inr (.inr hb)))) hs,h.c4,h.e4,h.le,h.dis⟩
theorem SuL.mono{w:World}{P:Nat->Prop}{B:Nat}{X:Su}{c d:Nat}{V:Sv}(h:SuL w P B X c V)(hd:c<=d):SuL w P B X d V:=
 { h with c2:=Nat.le_trans h.c2 hd,c3:=Nat.le_trans h.c3 hd,c4:=Nat.le_trans h.c4 hd,le:=h.le.mono hd }
structure SuM(w:World)(P:Nat->Prop)(B sb:Nat)(pv:Value)(X:Su)(c:Nat)(V:Sv):Prop where
 l:SuL w P B X c V
 box:w.heap[sb]?=some (.cells (V.cells pv) 146 (0,0))
 out:¬V.fp sb
 lo:B<=sb
 args:∀b,P b->b<B
theorem SuM.keep{w w':World}{P:Nat->Prop}{B sb:Nat}{pv:Value}{X:Su}{c:Nat}{V:Sv}(h:SuM w P B sb pv X c V)(hw:Below w.heap.size w w'):SuM w' P B sb pv X c V:=by
 have hs:sb<w.heap.size:=(Array.getElem?_eq_some_iff.1 h.box).1;exact⟨h.l.keep (fun b hb=>hw.block b (h.l.bd b hb).2) (fun b hb=>hw.block b (by have:=h.args b hb;have:=h.lo;omega)) hw.size,(hw.block sb hs).trans h.box,h.out,h.lo,h.args⟩
theorem SuM.mono{w:World}{P:Nat->Prop}{B sb:Nat}{pv:Value}{X:Su}{c d:Nat}{V:Sv}(h:SuM w P B sb pv X c V)(hd:c<=d):SuM w P B sb pv X d V:=⟨h.l.mono hd,h.box,h.out,h.lo,h.args⟩
def aHE(w:World)(P:Nat->Prop)(B sb:Nat)(pv:Value)(X:Su)(c:Nat)(V:Sv)(e:Ending)(w':World):Prop:=e=.returned (.tuple #[])∧∃V':Sv,SuM w' P B sb pv X c V'∧aBD (fun b=>V.fp b∨b=sb) w w'∧∀b,V'.fp b->V.fp b∨w.heap.size<=b
section
variable {w w':World} {P:Nat->Prop} {B sb:Nat} {pv:Value} {X:Su} {c:Nat} {V:Sv} {e:Ending}
theorem SuM.sblt(h:SuM w P B sb pv X c V):sb<w.heap.size:=(Array.getElem?_eq_some_iff.1 h.box).1
theorem SuM.add1(h:SuM w P B sb pv X c V){KL':Nat}{KS':List Value}{GL':Value->List Value}{nm n:ByteArray}(ha:aG8 w V.f1 SKy B 9 1 9 1 V.m1 sb 1 (V.cells pv) 146 (X.fnm nm n).tn.length ((X.fnm nm n).tn.map Value.string) GL' e w')(hg:∀m,GL' (.string m)=((X.fnm nm n).tf m).map Value.string):aHE w P B sb pv (X.fnm nm n) (c+1) V e w':=by
 obtain⟨hr,⟨kv,F',hL,hb,hF⟩,ho⟩:=ha;have hs:=h.sblt;have hd:=h.l.dis;have hk:∀b,b<w.heap.size->¬V.f1 b->b≠sb->w'.heap[b]?=w.heap[b]?:=fun b h1 h2 h3=>ho.block b h1 fun h4=>h4.elim h2 h3;have h2:∀b,V.f2 b->w'.heap[b]?=w.heap[b]?:=fun b hb=>hk b (h.l.l2.bd b hb).2 (fun h1=>((hd b).1 h1).1 hb) fun e=>h.out (e▸.inr (.inl hb));have h3:∀b,V.f3 b->w'.heap[b]?=w.heap[b]?:=fun b hb=>hk b (h.l.l3.bd b hb).2 (fun h1=>((hd b).1 h1).2.1 hb) fun e=>h.out (e▸.inr (.inr (.inl hb)));have h4:∀b,V.f4 b->w'.heap[b]?=w.heap[b]?:=fun b hb=>hk b (h.l.l4.bd b hb).2 (fun h1=>((hd b).1 h1).2.2 hb) fun e=>h.out (e▸.inr (.inr (.inr hb)));have hp:∀b,P b->w'.heap[b]?=w.heap[b]?:=fun b hb=>hk b (by have:=h.args b hb;have:=h.lo;omega) (fun h1=>by have:=h.args b hb;have:=(h.l.l1.bd b h1).1;omega) (by have:=h.args b hb;have:=h.lo;omega)
 refine⟨hr,{ V with kv1:=kv,f1:=F',g1:=GL' },⟨⟨hL,hg,h.l.l2.keep h2 ho.size,Nat.le_succ_of_le h.l.c2,h.l.e2,h.l.l3.keep h3 ho.size,Nat.le_succ_of_le h.l.c3,fun a b=>(h.l.e3 a b).mono hp,h.l.l4.keep h4 ho.size,Nat.le_succ_of_le h.l.c4,h.l.e4,h.l.le.fnm nm n,fun b=>⟨fun h1=>?_,(hd b).2⟩⟩,hb,fun h1=>?_,h.lo,h.args⟩,⟨ho.os,ho.tape,ho.output,ho.size,fun b hb hn=>ho.block b hb fun h1=>hn (h1.imp .inl id)⟩,fun b h1=>?_⟩
 ·rcases hF b h1 with h5| h5
  ·exact(hd b).1 h5
  ·exact⟨fun q=>by have:=(h.l.l2.bd b q).2;omega,fun q=>by have:=(h.l.l3.bd b q).2;omega,fun q=>by have:=(h.l.l4.bd b q).2;omega⟩
 ·rcases h1 with h1| h1
  ·rcases hF sb h1 with h5| h5
   ·exact h.out (.inl h5)
   ·omega
  ·exact h.out (.inr h1)
 ·rcases h1 with h1| h1
  ·exact(hF b h1).imp .inl id
  ·exact .inl (.inr h1)
theorem SuM.add2(h:SuM w P B sb pv X c V){KL':Nat}{KS':List Value}{GL':Value->List Value}{t:T}(hk1:KL'<=c+1)(ha:aG8 w V.f2 SKy B 9 1 9 1 V.m2 sb 3 (V.cells pv) 146 KL' KS' GL' e w')(hg:∀m,GL' (.string m)=((X.key t).ky m).map Value.string):aHE w P B sb pv (X.key t) (c+1) V e w':=by
 obtain⟨hr,⟨kv,F',hL,hb,hF⟩,ho⟩:=ha;have hs:=h.sblt;have hd:=h.l.dis;obtain⟨q1,q2,q3⟩:(X.key t).tn=X.tn∧(X.key t).tf=X.tf∧(X.key t).sd=X.sd:=by unfold Su.key;split<;>exact⟨rfl,rfl,rfl⟩
 have q4:(X.key t).ow=X.ow:=by unfold Su.key;split<;>rfl
 have hk:∀b,b<w.heap.size->¬V.f2 b->b≠sb->w'.heap[b]?=w.heap[b]?:=fun b h1 h2 h3=>ho.block b h1 fun h4=>h4.elim h2 h3;have h1:∀b,V.f1 b->w'.heap[b]?=w.heap[b]?:=fun b hb=>hk b (h.l.l1.bd b hb).2 (fun h2=>((hd b).1 hb).1 h2) fun e=>h.out (e▸.inl hb);have h3:∀b,V.f3 b->w'.heap[b]?=w.heap[b]?:=fun b hb=>hk b (h.l.l3.bd b hb).2 (fun h1=>((hd b).2.1 h1).1 hb) fun e=>h.out (e▸.inr (.inr (.inl hb)));have h4:∀b,V.f4 b->w'.heap[b]?=w.heap[b]?:=fun b hb=>hk b (h.l.l4.bd b hb).2 (fun h1=>((hd b).2.1 h1).2 hb) fun e=>h.out (e▸.inr (.inr (.inr hb)));have hp:∀b,P b->w'.heap[b]?=w.heap[b]?:=fun b hb=>hk b (by have:=h.args b hb;have:=h.lo;omega) (fun h1=>by have:=h.args b hb;have:=(h.l.l2.bd b h1).1;omega) (by have:=h.args b hb;have:=h.lo;omega)
 refine⟨hr,{ V with kv2:=kv,f2:=F',g2:=GL',n2:=KL',s2:=KS' },⟨⟨by rw[q1];exact h.l.l1.keep h1 ho.size,fun a=>by rw[q2];exact h.l.e1 a,hL,hk1,hg,h.l.l3.keep h3 ho.size,Nat.le_succ_of_le h.l.c3,fun a b=>by rw[q3];exact(h.l.e3 a b).mono hp,h.l.l4.keep h4 ho.size,Nat.le_succ_of_le h.l.c4,fun a b=>by rw[q4];exact h.l.e4 a b,h.l.le.key t,fun b=>⟨fun h1=>⟨fun h2=>?_,((hd b).1 h1).2⟩,fun h1=>?_,(hd b).2.2⟩⟩,hb,fun h1=>?_,h.lo,h.args⟩,⟨ho.os,ho.tape,ho.output,ho.size,fun b hb hn=>ho.block b hb fun h1=>hn (h1.imp (fun x=>.inr (.inl x)) id)⟩,fun b h1=>?_⟩
 ·rcases hF b h2 with h5| h5
  ·exact((hd b).1 h1).1 h5
  ·have:=(h.l.l1.bd b h1).2;omega
 ·rcases hF b h1 with h5| h5
  ·exact(hd b).2.1 h5
  ·exact⟨fun q=>by have:=(h.l.l3.bd b q).2;omega,fun q=>by have:=(h.l.l4.bd b q).2;omega⟩
 ·rcases h1 with h1| h1| h1
  ·exact h.out (.inl h1)
  ·rcases hF sb h1 with h5| h5
   ·exact h.out (.inr (.inl h5))
   ·omega
  ·exact h.out (.inr (.inr h1))
 ·rcases h1 with h1| h1| h1
  ·exact .inl (.inl h1)
  ·exact(hF b h1).imp (fun x=>.inr (.inl x)) id
  ·exact .inl (.inr (.inr h1))
theorem SuM.add3(h:SuM w P B sb pv X c V){KL':Nat}{KS':List Value}{GL':Value->List Value}{nm:ByteArray}{f:F}(hk1:KL'<=c+1)(ha:aG8 w V.f3 FKy B 153 2 80 8 V.m3 sb 5 (V.cells pv) 146 KL' KS' GL' e w')(hg:∀a b,aCN w P ((X.fsd nm f).sd a b) (GL' (fk a b))):aHE w P B sb pv (X.fsd nm f) (c+1) V e w':=by
 obtain⟨hr,⟨kv,F',hL,hb,hF⟩,ho⟩:=ha;have hs:=h.sblt;have hd:=h.l.dis;have hk:∀b,b<w.heap.size->¬V.f3 b->b≠sb->w'.heap[b]?=w.heap[b]?:=fun b h1 h2 h3=>ho.block b h1 fun h4=>h4.elim h2 h3;have h1:∀b,V.f1 b->w'.heap[b]?=w.heap[b]?:=fun b hb=>hk b (h.l.l1.bd b hb).2 (fun h2=>((hd b).1 hb).2.1 h2) fun e=>h.out (e▸.inl hb);have h2:∀b,V.f2 b->w'.heap[b]?=w.heap[b]?:=fun b hb=>hk b (h.l.l2.bd b hb).2 (fun h2=>((hd b).2.1 hb).1 h2) fun e=>h.out (e▸.inr (.inl hb));have h4:∀b,V.f4 b->w'.heap[b]?=w.heap[b]?:=fun b hb=>hk b (h.l.l4.bd b hb).2 (fun h1=>((hd b).2.2 h1) hb) fun e=>h.out (e▸.inr (.inr (.inr hb)));have hp:∀b,P b->w'.heap[b]?=w.heap[b]?:=fun b hb=>hk b (by have:=h.args b hb;have:=h.lo;omega) (fun h1=>by have:=h.args b hb;have:=(h.l.l3.bd b h1).1;omega) (by have:=h.args b hb;have:=h.lo;omega)
 refine⟨hr,{ V with kv3:=kv,f3:=F',g3:=GL',n3:=KL',s3:=KS' },⟨⟨h.l.l1.keep h1 ho.size,h.l.e1,h.l.l2.keep h2 ho.size,Nat.le_succ_of_le h.l.c2,h.l.e2,hL,hk1,fun a b=>(hg a b).mono hp,h.l.l4.keep h4 ho.size,Nat.le_succ_of_le h.l.c4,h.l.e4,h.l.le.fsd nm f,fun b=>⟨fun h1=>⟨((hd b).1 h1).1,fun h2=>?_,((hd b).1 h1).2.2⟩,fun h1=>⟨fun h2=>?_,((hd b).2.1 h1).2⟩,fun h1=>?_⟩⟩,hb,fun h1=>?_,h.lo,h.args⟩,⟨ho.os,ho.tape,ho.output,ho.size,fun b hb hn=>ho.block b hb fun h1=>hn (h1.imp (fun x=>.inr (.inr (.inl x))) id)⟩,fun b h1=>?_⟩
 ·rcases hF b h2 with h5| h5
  ·exact((hd b).1 h1).2.1 h5
  ·have:=(h.l.l1.bd b h1).2;omega
 ·rcases hF b h2 with h5| h5
  ·exact((hd b).2.1 h1).1 h5
  ·have:=(h.l.l2.bd b h1).2;omega
 ·rcases hF b h1 with h5| h5
  ·exact(hd b).2.2 h5
  ·exact fun q=>by have:=(h.l.l4.bd b q).2;omega
 ·rcases h1 with h1| h1| h1| h1
  ·exact h.out (.inl h1)
  ·exact h.out (.inr (.inl h1))
  ·rcases hF sb h1 with h5| h5
   ·exact h.out (.inr (.inr (.inl h5)))
   ·omega
  ·exact h.out (.inr (.inr (.inr h1)))
 ·rcases h1 with h1| h1| h1| h1
  ·exact .inl (.inl h1)
  ·exact .inl (.inr (.inl h1))
  ·exact(hF b h1).imp (fun x=>.inr (.inr (.inl x))) id
  ·exact .inl (.inr (.inr (.inr h1)))
theorem SuM.add4(h:SuM w P B sb pv X c V){KL':Nat}{KS':List Value}{GL':Value->List Value}{i:Nat}{nm n:ByteArray}(hk1:KL'<=c+1)(ha:aG8 w V.f4 FKy B 153 2 3 1 V.m4 sb 7 (V.cells pv) 146 KL' KS' GL' e w')(hg:∀a b,GL' (fk a b)=((X.fow i nm n).ow a b).map fun(k:Nat)=>Value.int .i64 (k:Int)):aHE w P B sb pv (X.fow i nm n) (c+1) V e w':=by
 obtain⟨hr,⟨kv,F',hL,hb,hF⟩,ho⟩:=ha;have hs:=h.sblt;have hd:=h.l.dis;have hk:∀b,b<w.heap.size->¬V.f4 b->b≠sb->w'.heap[b]?=w.heap[b]?:=fun b h1 h2 h3=>ho.block b h1 fun h4=>h4.elim h2 h3;have h1:∀b,V.f1 b->w'.heap[b]?=w.heap[b]?:=fun b hb=>hk b (h.l.l1.bd b hb).2 (fun h2=>((hd b).1 hb).2.2 h2) fun e=>h.out (e▸.inl hb);have h2:∀b,V.f2 b->w'.heap[b]?=w.heap[b]?:=fun b hb=>hk b (h.l.l2.bd b hb).2 (fun h2=>((hd b).2.1 hb).2 h2) fun e=>h.out (e▸.inr (.inl hb));have h3:∀b,V.f3 b->w'.heap[b]?=w.heap[b]?:=fun b hb=>hk b (h.l.l3.bd b hb).2 (fun h1=>((hd b).2.2 hb) h1) fun e=>h.out (e▸.inr (.inr (.inl hb)));have hp:∀b,P b->w'.heap[b]?=w.heap[b]?:=fun b hb=>hk b (by have:=h.args b hb;have:=h.lo;omega) (fun h1=>by have:=h.args b hb;have:=(h.l.l4.bd b h1).1;omega) (by have:=h.args b hb;have:=h.lo;omega)
 refine⟨hr,{ V with kv4:=kv,f4:=F',g4:=GL',n4:=KL',s4:=KS' },⟨⟨h.l.l1.keep h1 ho.size,h.l.e1,h.l.l2.keep h2 ho.size,Nat.le_succ_of_le h.l.c2,h.l.e2,h.l.l3.keep h3 ho.size,Nat.le_succ_of_le h.l.c3,fun a b=>(h.l.e3 a b).mono hp,hL,hk1,hg,h.l.le.fow i nm n,fun b=>⟨fun h1=>⟨((hd b).1 h1).1,((hd b).1 h1).2.1,fun h2=>?_⟩,fun h1=>⟨((hd b).2.1 h1).1,fun h2=>?_⟩,fun h1 h2=>?_⟩⟩,hb,fun h1=>?_,h.lo,h.args⟩,⟨ho.os,ho.tape,ho.output,ho.size,fun b hb hn=>ho.block b hb fun h1=>hn (h1.imp (fun x=>.inr (.inr (.inr x))) id)⟩,fun b h1=>?_⟩
 ·rcases hF b h2 with h5| h5
  ·exact((hd b).1 h1).2.2 h5
  ·have:=(h.l.l1.bd b h1).2;omega
 ·rcases hF b h2 with h5| h5
  ·exact((hd b).2.1 h1).2 h5
  ·have:=(h.l.l2.bd b h1).2;omega
 ·rcases hF b h2 with h5| h5
  ·exact(hd b).2.2 h1 h5
  ·have:=(h.l.l3.bd b h1).2;omega
 ·rcases h1 with h1| h1| h1| h1
  ·exact h.out (.inl h1)
  ·exact h.out (.inr (.inl h1))
  ·exact h.out (.inr (.inr (.inl h1)))
  ·rcases hF sb h1 with h5| h5
   ·exact h.out (.inr (.inr (.inr h5)))
   ·omega
 ·rcases h1 with h1| h1| h1| h1
  ·exact .inl (.inl h1)
  ·exact .inl (.inr (.inl h1))
  ·exact .inl (.inr (.inr (.inl h1)))
  ·exact(hF b h1).imp (fun x=>.inr (.inr (.inr x))) id
end
open Classical in
noncomputable def updG(g:Value->List Value)(k:Value)(xs:List Value):Value->List Value:=fun v=>if v=k then g v++xs else g v
theorem aDD(g:Value->List Value)(k:Value)(xs:List Value):updG g k xs k=g k++xs:=by unfold updG;rw[if_pos rfl]
theorem aCJ(g:Value->List Value)(k:Value)(xs:List Value)(y:Value)(h:y≠k):updG g k xs y=g y:=by unfold updG;rw[if_neg h]
theorem aHF(old:List Value)(KL:Nat)(KS kc:List Value):∃KL' KS',aFA old KL KS kc KL' KS'∧KL'<=KL+1:=by
 by_cases h:old=[]
 ·exact⟨KL+1,KS++kc,.inl ⟨h,rfl,rfl⟩,Nat.le_refl _⟩
 ·exact⟨KL,KS,.inr ⟨h,rfl,rfl⟩,by omega⟩
section
variable {w:World} {P:Nat->Prop} {B sb:Nat} {pv:Value} {X:Su} {c:Nat} {V:Sv}
theorem aNC(h:SuM w P B sb pv X c V)(nm n:ByteArray)(hc:c<=100000):
  Calls Tryz.prog 144 #[.pointer (some ⟨sb,1,none⟩),.string nm,.string n] w (aHE w P B sb pv (X.fnm nm n) (c+1) V):=by
 have h1:=h.l.le.tn;have h2:=h.l.le.tf nm;have hk:aFA (V.g1 (.string nm)) X.tn.length (X.tn.map Value.string) [.string nm] (X.fnm nm n).tn.length ((X.fnm nm n).tn.map Value.string):=by
  rw[h.l.e1];simp only[Su.fnm];by_cases e:(X.tf nm).length=0
  ·rw[if_pos e];exact .inl ⟨by simpa using e,by simp,by simp⟩
  ·rw[if_neg e];exact .inr ⟨by simpa using e,rfl,rfl⟩
 refine(aPC w w (aA0 rfl) V.f1 B V.kv1 V.m1 X.tn.length (X.fnm nm n).tn.length _ _ V.g1 (updG V.g1 (.string nm) [.string n]) sb 1 (V.cells pv) 146 nm n h.l.l1 h.box rfl rfl (fun e=>h.out (.inl e)) (by omega) (by rw[h.l.e1,List.length_map];omega) hk (aDD _ _ _) (aCJ _ _ _)).mono fun e w' ha=>h.add1 (KL':=0) (KS':=[]) ha fun m=>?_
 by_cases e:m=nm
 ·subst e;rw[aDD,h.l.e1];simp[Su.fnm]
 ·rw[aCJ _ _ _ _ (fun e2=>e (Value.string.inj e2)),h.l.e1];simp only[Su.fnm];rw[if_neg e]
theorem aNK(h:SuM w P B sb pv X c V)(t:T)(ht:t.key.toList.isEmpty=false)(hc:c<=100000):
  Calls Tryz.prog 144 #[.pointer (some ⟨sb,3,none⟩),.string t.name,.string t.key] w (aHE w P B sb pv (X.key t) (c+1) V):=by
 have h2:=h.l.le.ky t.name;have h3:=h.l.c2;obtain⟨KL',KS',hk,hKL⟩:=aHF (V.g2 (.string t.name)) V.n2 V.s2 [.string t.name];refine(aPC w w (aA0 rfl) V.f2 B V.kv2 V.m2 V.n2 KL' V.s2 KS' V.g2 (updG V.g2 (.string t.name) [.string t.key]) sb 3 (V.cells pv) 146 t.name t.key h.l.l2 h.box rfl rfl (fun e=>h.out (.inr (.inl e))) (by omega) (by rw[h.l.e2,List.length_map];omega) hk (aDD _ _ _) (aCJ _ _ _)).mono fun e w' ha=>h.add2 (by omega) ha fun m=>?_
 have hky:(X.key t).ky=fun m=>if m=t.name then X.ky m++[t.key] else X.ky m:=by unfold Su.key;rw[ht];rfl
 rw[hky];by_cases e:m=t.name
 ·rw[e,aDD,h.l.e2];simp
 ·rw[aCJ _ _ _ _ (fun e2=>e (Value.string.inj e2)),h.l.e2];simp only;rw[if_neg e]
theorem aL9(h:SuM w P B sb pv X c V)(nm:ByteArray)(f:F)(na:Option Addr)(nc:Nat)(hf:FRep w P f (.agg (fcl f na nc).toArray))(hc:c<=100000):
  Calls Tryz.prog 145 #[.pointer (some ⟨sb,5,none⟩),.agg #[.string nm,.string f.name],.agg #[.string f.name,.string f.of,.bool f.list,.bool f.must,.bool f.far,.bool f.hidden,.bool f.shared,.slice na f.needs.length nc]] w (aHE w P B sb pv (X.fsd nm f) (c+1) V):=by
 have h2:=h.l.le.sd nm f.name;have h3:=h.l.c3;have h4:=h.l.e3 nm f.name;obtain⟨KL',KS',hk,hKL⟩:=aHF (V.g3 (fk nm f.name)) V.n3 V.s3 [.string nm,.string f.name];refine(aQK w V.f3 B V.kv3 V.m3 V.n3 KL' V.s3 KS' V.g3 (updG V.g3 (fk nm f.name) (fcl f na nc)) sb 5 (V.cells pv) 146 nm f.name f na f.needs.length nc h.l.l3 h.box rfl rfl (fun e=>h.out (.inr (.inr (.inl e)))) (by omega) (by rw[h4.1];omega) hk (aDD _ _ _) (aCJ _ _ _)).mono fun e w' ha=>h.add3 (by omega) ha fun a b=>?_
 simp only[Su.fsd];by_cases e:a=nm∧b=f.name
 ·obtain⟨rfl,rfl⟩:=e;rw[aDD,if_pos ⟨rfl,rfl⟩];exact h4.snoc hf
 ·rw[aCJ _ _ _ _ (fun e2=>e (aU0 e2)),if_neg e];exact h.l.e3 a b
theorem aLC(h:SuM w P B sb pv X c V)(nm n:ByteArray)(i:Nat)(hc:c<=100000):
  Calls Tryz.prog 146 #[.pointer (some ⟨sb,7,none⟩),.agg #[.string nm,.string n],.int .i64 (i:Int)] w (aHE w P B sb pv (X.fow i nm n) (c+1) V):=by
 have h2:=h.l.le.ow nm n;have h3:=h.l.c4;have h4:=h.l.e4 nm n;obtain⟨KL',KS',hk,hKL⟩:=aHF (V.g4 (fk nm n)) V.n4 V.s4 [.string nm,.string n];refine(aRA w V.f4 B V.kv4 V.m4 V.n4 KL' V.s4 KS' V.g4 (updG V.g4 (fk nm n) [.int .i64 (i:Int)]) sb 7 (V.cells pv) 146 nm n (i:Int) h.l.l4 h.box rfl rfl (fun e=>h.out (.inr (.inr (.inr e)))) (by omega) (by rw[h4,List.length_map];omega) hk (aDD _ _ _) (aCJ _ _ _)).mono fun e w' ha=>h.add4 (by omega) ha fun a b=>?_
 simp only[Su.fow];by_cases e:a=nm∧b=n
 ·obtain⟨rfl,rfl⟩:=e;rw[aDD,if_pos ⟨rfl,rfl⟩,h4];simp
 ·rw[aCJ _ _ _ _ (fun e2=>e (aU0 e2)),if_neg e];exact h.l.e4 a b
end
def InvY(w0:World)(P:Nat->Prop)(B sb:Nat)(pv:Value)(V:Sv)(X:Su)(c:Nat)(wx:World):Prop:=∃V1:Sv,SuM wx P B sb pv X c V1∧aBD (fun b=>V.fp b∨b=sb) w0 wx∧∀b,V1.fp b->V.fp b∨w0.heap.size<=b
section
variable {w0 wx wy:World} {P:Nat->Prop} {B sb:Nat} {pv:Value} {X X':Su} {c c':Nat} {V:Sv}
theorem InvY.below(h:InvY w0 P B sb pv V X c wx)(hb:Below wx.heap.size wx wy):InvY w0 P B sb pv V X c wy:=by
 obtain⟨V1,h1,h2,h3⟩:=h;exact⟨V1,h1.keep hb,h2.trans (aBD.of_below (O:=fun b=>V.fp b∨b=sb) hb) (fun _ _ h=>h) fun _ _ h=>h,h3⟩
theorem InvY.step{V1:Sv}(h2:aBD (fun b=>V.fp b∨b=sb) w0 wx)(h3:∀b,V1.fp b->V.fp b∨w0.heap.size<=b){e:Ending}(hE:aHE wx P B sb pv X' c' V1 e wy):InvY w0 P B sb pv V X' c' wy:=by
 obtain⟨-,V',q1,q2,q3⟩:=hE;refine⟨V',q1,h2.trans q2 (fun _ _ h=>h) fun b hb h=>?_,fun b hb=>?_⟩
 ·rcases h with h| h
  ·rcases h3 b h with h4| h4
   ·exact .inl h4
   ·omega
  ·exact .inr h
 ·rcases q3 b hb with h| h
  ·exact h3 b h
  ·exact .inr (Nat.le_trans h2.size h)
theorem InvY.mono(h:InvY w0 P B sb pv V X c wx)(hc:c<=c'):InvY w0 P B sb pv V X c' wx:=by
 obtain⟨V1,h1,h2,h3⟩:=h;exact⟨V1,h1.mono hc,h2,h3⟩
theorem InvY.size(h:InvY w0 P B sb pv V X c wx):w0.heap.size<=wx.heap.size:=by
 obtain⟨V1,h1,h2,h3⟩:=h;exact h2.size
theorem InvY.block(h:InvY w0 P B sb pv V X c wx){b:Nat}(hb:b<w0.heap.size)(hn:¬V.fp b)(hs:b≠sb):wx.heap[b]?=w0.heap[b]?:=by
 obtain⟨V1,h1,h2,h3⟩:=h;exact h2.block b hb fun h=>h.elim hn hs
end
end Go.Proofs.YtcebpkeiaiiphaaGreatDoor
namespace Go.Proofs.YtcebpkeiaiiphaaGreatDoor
open Go.RowKit
def putS(g f:F):F:={ g with hidden:=g.hidden||f.hidden,needs:=if f.needs.length=0 then g.needs else f.needs }
def newS(f:F):F:=⟨f.name,f.of,f.list,f.must,false,f.hidden,false,f.needs⟩
def aCM:List F->F
 |[]=>F.zero
 |f::r=>r.foldl putS (newS f)
theorem aPN(L:List F)(f:F)(h:L≠[]):aCM (L++[f])=putS (aCM L) f:=by
 cases L with
 |nil=>exact absurd rfl h
 |cons a r=>simp[aCM,List.foldl_append]
theorem aKJ:∀(r:List F) (g:F),(r.foldl putS g).name=g.name
 |[],_=>rfl
 |a::r,g=>by rw[List.foldl_cons,aKJ r];rfl
theorem aQ5{L:List F}{n:ByteArray}(h:L≠[])(hn:∀f∈ L,f.name=n):(aCM L).name=n:=by
 cases L with
 |nil=>exact absurd rfl h
 |cons a r=>rw[aCM,aKJ];exact hn a (by simp)
structure SuOk(X:Su):Prop where
 nd:X.tn.Nodup
 mem:∀nm,nm∈ X.tn↔X.tf nm≠[]
 fnd:∀nm,(X.tf nm).Nodup
 fmem:∀nm n,n∈ X.tf nm↔X.sd nm n≠[]
 nam:∀nm n f,f∈ X.sd nm n->f.name=n
theorem SuOk.zero:SuOk Su.zero:=⟨List.nodup_nil,fun nm=>by simp[Su.zero],fun nm=>List.nodup_nil,fun nm n=>by simp[Su.zero],fun nm n f h=>by simp[Su.zero] at h⟩
theorem aPG(X:Su)(t:T):(X.key t).tn=X.tn∧(X.key t).tf=X.tf∧(X.key t).sd=X.sd:=by
 unfold Su.key;split
 ·exact⟨rfl,rfl,rfl⟩
 ·exact⟨rfl,rfl,rfl⟩
theorem SuOk.key{X:Su}(h:SuOk X)(t:T):SuOk (X.key t):=by
 obtain⟨h1,h2,h3⟩:=aPG X t;exact⟨by rw[h1];exact h.nd,fun nm=>by rw[h1,h2];exact h.mem nm,fun nm=>by rw[h2];exact h.fnd nm,fun nm n=>by rw[h2,h3];exact h.fmem nm n,fun nm n f hf=>h.nam nm n f (by rw[h3] at hf;exact hf)⟩
theorem len0{α:Type}{l:List α}:l.length=0↔l=[]:=List.length_eq_zero_iff
theorem SuOk.fld{X:Su}(h:SuOk X)(i:Nat)(nm:ByteArray)(f:F):SuOk (X.fld i nm f):=by
 have hsd:∀m n,(X.fld i nm f).sd m n=if m=nm∧n=f.name then X.sd m n++[f] else X.sd m n:=fun _ _=>rfl
 have htf:∀m,(X.fld i nm f).tf m=if(X.sd nm f.name).length=0∧m=nm then X.tf m++[f.name] else X.tf m:=fun m=>by
  show(if(X.sd nm f.name).length=0 then(fun m=>if m=nm then X.tf m++[f.name] else X.tf m) else X.tf) m=_
  by_cases e:(X.sd nm f.name).length=0
  ·rw[if_pos e];by_cases e2:m=nm
   ·exact(if_pos e2).trans (if_pos ⟨e,e2⟩).symm
   ·exact(if_neg e2).trans (if_neg (fun h=>e2 h.2)).symm
  ·rw[if_neg e,if_neg (fun h=>e h.1)]
 have htn:(X.fld i nm f).tn=if(X.sd nm f.name).length=0∧(X.tf nm).length=0 then X.tn++[nm] else X.tn:=rfl
 have h0:(X.tf nm).length=0->(X.sd nm f.name).length=0:=fun e=>by
  rw[len0] at e ⊢;by_cases e2:X.sd nm f.name=[]
  ·exact e2
  ·have:=(h.fmem nm f.name).2 e2;rw[e] at this;cases this
 refine⟨?_,fun m=>?_,fun m=>?_,fun m n=>?_,fun m n g hg=>?_⟩
 ·rw[htn];split
  ·rename_i e;rw[List.nodup_append];refine⟨h.nd,by simp,fun a ha b hb=>?_⟩
   rw[List.mem_singleton] at hb;subst hb;rintro rfl;exact(h.mem a).1 ha (len0.1 e.2)
  ·exact h.nd
 ·rw[htn,htf];by_cases e:(X.tf nm).length=0
  ·rw[if_pos ⟨h0 e,e⟩];by_cases e2:m=nm
   ·rw[if_pos ⟨h0 e,e2⟩];simp[e2]
   ·rw[if_neg (fun h=>e2 h.2),List.mem_append,List.mem_singleton,h.mem m];exact⟨fun h=>h.resolve_right e2,Or.inl⟩
  ·rw[if_neg (fun h=>e h.2),h.mem m];by_cases e2:(X.sd nm f.name).length=0∧m=nm
   ·rw[if_pos e2,e2.2];exact⟨fun _=>by simp,fun _ e3=>e (len0.2 e3)⟩
   ·rw[if_neg e2]
 ·rw[htf];split
  ·rename_i e;rw[List.nodup_append];refine⟨h.fnd m,by simp,fun a ha b hb=>?_⟩
   rw[List.mem_singleton] at hb;subst hb;rintro rfl;exact(h.fmem m f.name).1 ha (by rw[e.2];exact len0.1 e.1)
  ·exact h.fnd m
 ·rw[htf,hsd];by_cases e:m=nm∧n=f.name
  ·rw[if_pos e];obtain⟨rfl,rfl⟩:=e;refine⟨fun _=>by simp,fun _=>?_⟩
   by_cases e2:(X.sd m f.name).length=0
   ·rw[if_pos ⟨e2,rfl⟩];simp
   ·rw[if_neg (fun h=>e2 h.1)];exact(h.fmem m f.name).2 fun e3=>e2 (len0.2 e3)
  ·rw[if_neg e,<-h.fmem m n];split
   ·rename_i e2;rw[List.mem_append,List.mem_singleton];exact⟨fun h=>h.resolve_right fun e3=>e ⟨e2.2,e3⟩,Or.inl⟩
   ·exact Iff.rfl
 ·rw[hsd] at hg;split at hg
  ·rename_i e;rw[List.mem_append,List.mem_singleton] at hg;rcases hg with hg| rfl
   ·exact h.nam m n g hg
   ·exact e.2.symm
  ·exact h.nam m n g hg
theorem SuOk.flds{X:Su}(h:SuOk X)(i:Nat)(t:T):∀l,SuOk (X.flds i t l)
 |0=>h
 |l+1=>(SuOk.flds h i t l).fld i _ _
theorem SuOk.tys{X:Su}(h:SuOk X)(i:Nat)(p:Pt):∀k,SuOk (X.tys i p k)
 |0=>h
 |k+1=>((SuOk.tys h i p k).key _).flds i _ _
theorem aNV(ps:List Pt):∀i,SuOk (suTo ps i)
 |0=>SuOk.zero
 |i+1=>(aNV ps i).tys i _ _
def outT(ps:List Pt)(X:Su)(nm:ByteArray):T:=⟨nm,keyM ps nm,(X.tf nm).map fun n=>aCM (X.sd nm n)⟩
def aEG(ps:List Pt)(X:Su):List T:=X.tn.map (outT ps X)
def aMJ(ps:List Pt)(out:List T)(nm:ByteArray)(f:F):List T:=if 0<=tyIx out nm then out.set (tyIx out nm).toNat (putF (tth out (tyIx out nm).toNat) f) else out++[putF ⟨nm,keyM ps nm,[]⟩ f]
theorem aEL(out:List T)(nm:ByteArray):(¬0<=tyIx out nm∧∀i,i<out.length->(tth out i).name≠nm)∨∃k:Nat,tyIx out nm=(k:Int)∧k<out.length∧(tth out k).name=nm∧∀i,i<k->(tth out i).name≠nm:=by
 have hx:tyIx out nm=aA9 (fun i=>(tth out i).name.toList==nm.toList) out.length:=rfl;rcases aA8 (fun i=>(tth out i).name.toList==nm.toList) out.length with⟨h2,h3⟩| ⟨g,h2,hg,hq,h3⟩
 ·left;refine⟨by rw[hx,h2];omega,fun i hi e=>?_⟩
  have:=h3 i hi;rw[e] at this;simp at this
 ·right;refine⟨g,by rw[hx,h2],hg,aJT (by simpa using hq),fun i hi e=>?_⟩
  have:=h3 i hi;rw[e] at this;simp at this
theorem aGU(t:T)(n:ByteArray):(¬0<=aAB t n∧∀i,i<t.fields.length->(fth t.fields i).name≠n)∨∃k:Nat,aAB t n=(k:Int)∧k<t.fields.length∧(fth t.fields k).name=n:=by
 have hx:aAB t n=aA9 (fun i=>(fth t.fields i).name.toList==n.toList) t.fields.length:=rfl;rcases aA8 (fun i=>(fth t.fields i).name.toList==n.toList) t.fields.length with⟨h2,h3⟩| ⟨g,h2,hg,hq,h3⟩
 ·left;refine⟨by rw[hx,h2];omega,fun i hi e=>?_⟩
  have:=h3 i hi;rw[e] at this;simp at this
 ·right;exact⟨g,by rw[hx,h2],hg,aJT (by simpa using hq)⟩
theorem aIE(ps:List Pt)(X:Su){i:Nat}(h:i<X.tn.length):tth (aEG ps X) i=outT ps X X.tn[i]:=by simp[aEG,tth,List.getD_eq_getElem?_getD,h]
theorem aOH{l:List ByteArray}(h:l.Nodup){i j:Nat}(hi:i<l.length)(hj:j<l.length)(e:l[i]=l[j]):i=j:=by
 rcases Nat.lt_trichotomy i j with h1| h1| h1
 ·exact absurd e (List.pairwise_iff_getElem.1 h i j hi hj h1)
 ·exact h1
 ·exact absurd e.symm (List.pairwise_iff_getElem.1 h j i hj hi h1)
theorem aOP(ps:List Pt){X:Su}(h:SuOk X)(i:Nat)(nm:ByteArray)(f:F):outT ps (X.fld i nm f) nm=putF (outT ps X nm) f:=by
 have hsd:∀n,(X.fld i nm f).sd nm n=if n=f.name then X.sd nm n++[f] else X.sd nm n:=fun n=>by
  show(if nm=nm∧n=f.name then X.sd nm n++[f] else X.sd nm n)=_
  by_cases e:n=f.name
  ·rw[if_pos ⟨rfl,e⟩,if_pos e]
  ·rw[if_neg (fun h=>e h.2),if_neg e]
 have htf:(X.fld i nm f).tf nm=if(X.sd nm f.name).length=0 then X.tf nm++[f.name] else X.tf nm:=by
  show(if(X.sd nm f.name).length=0 then(fun m=>if m=nm then X.tf m++[f.name] else X.tf m) else X.tf) nm=_
  split
  ·exact if_pos rfl
  ·rfl
 have hname:∀n∈ X.tf nm,(aCM (X.sd nm n)).name=n:=fun n hn=>aQ5 ((h.fmem nm n).1 hn) (h.nam nm n);have hfn:∀j (hj:j<(X.tf nm).length),(fth (outT ps X nm).fields j)=aCM (X.sd nm (X.tf nm)[j]):=fun j hj=>by simp[outT,fth,List.getD_eq_getElem?_getD,hj]
 unfold putF;by_cases e:(X.sd nm f.name).length=0
 ·have hnot:f.name∉ X.tf nm:=fun hm=>(h.fmem nm f.name).1 hm (len0.1 e);rcases aGU (outT ps X nm) f.name with⟨h1,-⟩| ⟨k,-,hk,hkn⟩
  ·rw[if_neg h1];unfold outT;rw[htf,if_pos e,List.map_append]
   congr 2
   ·apply List.map_congr_left;intro n hn;have hne:n≠f.name:=fun e2=>hnot (e2▸hn);rw[hsd,if_neg hne]
   ·simp[hsd,len0.1 e,aCM,newS]
  ·exfalso
   have hk':k<(X.tf nm).length:=by simpa[outT] using hk
   rw[hfn k hk',hname _ (List.getElem_mem hk')] at hkn;exact hnot (hkn▸List.getElem_mem hk')
 ·have hin:f.name∈ X.tf nm:=(h.fmem nm f.name).2 fun e2=>e (len0.2 e2);obtain⟨j,hj,hjn⟩:=List.mem_iff_getElem.1 hin;rcases aGU (outT ps X nm) f.name with⟨-,h2⟩| ⟨k,hk1,hk,hkn⟩
  ·exfalso
   refine h2 j (by simpa[outT] using hj) ?_
   rw[hfn j hj,hname _ (List.getElem_mem hj),hjn]
  ·have hk':k<(X.tf nm).length:=by simpa[outT] using hk
   have hkn':=hkn;rw[hfn k hk',hname _ (List.getElem_mem hk')] at hkn';rw[hk1,if_pos (by omega),Int.toNat_natCast,hfn k hk']
   unfold outT;rw[htf,if_neg e]
   congr 1
   apply List.ext_getElem?;intro j2;by_cases e2:j2=k
   ·subst e2;rw[List.getElem?_set_self (by simpa using hk')]
    simp only[List.getElem?_map,List.getElem?_eq_getElem hk',Option.map_some];rw[hsd,if_pos hkn',aPN _ _ (by rw[hkn'];exact fun e3=>e (len0.2 e3))]
    rfl
   ·rw[List.getElem?_set_ne (fun e3=>e2 e3.symm)];by_cases hj2:j2<(X.tf nm).length
    ·simp only[List.getElem?_map,List.getElem?_eq_getElem hj2,Option.map_some];rw[hsd,if_neg];exact fun e3=>e2 (aOH (h.fnd nm) hj2 hk' (e3.trans hkn'.symm))
    ·simp only[List.getElem?_map];rw[List.getElem?_eq_none (by omega)]
     rfl
theorem aKW(ps:List Pt)(X:Su)(i:Nat)(nm:ByteArray)(f:F){m:ByteArray}(h:m≠nm):outT ps (X.fld i nm f) m=outT ps X m:=by
 have hsd:∀n,(X.fld i nm f).sd m n=X.sd m n:=fun n=>if_neg fun e=>h e.1;have htf:(X.fld i nm f).tf m=X.tf m:=by
  show(if(X.sd nm f.name).length=0 then(fun m=>if m=nm then X.tf m++[f.name] else X.tf m) else X.tf) m=_
  split
  ·exact if_neg h
  ·rfl
 unfold outT;rw[htf]
 congr 1
 apply List.map_congr_left;intro n _;rw[hsd]
theorem aS7(ps:List Pt){X:Su}(h:SuOk X)(i:Nat)(nm:ByteArray)(f:F):aEG ps (X.fld i nm f)=aMJ ps (aEG ps X) nm f:=by
 have htn:(X.fld i nm f).tn=if(X.sd nm f.name).length=0∧(X.tf nm).length=0 then X.tn++[nm] else X.tn:=rfl
 unfold aMJ;by_cases hm:nm∈ X.tn
 ·obtain⟨j,hj,hjn⟩:=List.mem_iff_getElem.1 hm;have ht:(X.fld i nm f).tn=X.tn:=by rw[htn,if_neg (fun e=>(h.mem nm).1 hm (len0.1 e.2))]
  rcases aEL (aEG ps X) nm with⟨-,h2⟩| ⟨k,hk1,hk,hkn,-⟩
  ·exfalso
   refine h2 j (by simpa[aEG] using hj) ?_
   rw[aIE ps X hj];exact hjn
  ·have hk':k<X.tn.length:=by simpa[aEG] using hk
   rw[aIE ps X hk'] at hkn;have hkn:X.tn[k]=nm:=hkn;rw[hk1,if_pos (by omega),Int.toNat_natCast,aIE ps X hk',hkn]
   unfold aEG;rw[ht];apply List.ext_getElem?;intro j2;by_cases e2:j2=k
   ·subst e2;rw[List.getElem?_set_self (by simpa using hk')]
    simp only[List.getElem?_map,List.getElem?_eq_getElem hk',Option.map_some];rw[hkn,aOP ps h]
   ·rw[List.getElem?_set_ne (fun e3=>e2 e3.symm)];by_cases hj2:j2<X.tn.length
    ·simp only[List.getElem?_map,List.getElem?_eq_getElem hj2,Option.map_some];rw[aKW];exact fun e3=>e2 (aOH h.nd hj2 hk' (e3.trans hkn.symm))
    ·simp only[List.getElem?_map];rw[List.getElem?_eq_none (by omega)]
     rfl
 ·have htf:X.tf nm=[]:=by
   by_cases e:X.tf nm=[]
   ·exact e
   ·exact absurd ((h.mem nm).2 e) hm
  have hsd:X.sd nm f.name=[]:=by
   by_cases e:X.sd nm f.name=[]
   ·exact e
   ·have:=(h.fmem nm f.name).2 e;rw[htf] at this;cases this
  have ht:(X.fld i nm f).tn=X.tn++[nm]:=by rw[htn,if_pos ⟨len0.2 hsd,len0.2 htf⟩]
  rcases aEL (aEG ps X) nm with⟨h1,-⟩| ⟨k,hk1,hk,hkn,-⟩
  ·rw[if_neg h1];unfold aEG;rw[ht,List.map_append]
   congr 1
   ·apply List.map_congr_left;intro m hm2;exact aKW ps X i nm f fun e=>hm (e▸hm2)
   ·simp only[List.map_cons,List.map_nil,aOP ps h]
    congr 2
    unfold outT;rw[htf];rfl
  ·exfalso
   have hk':k<X.tn.length:=by simpa[aEG] using hk
   rw[aIE ps X hk'] at hkn;have hkn:X.tn[k]=nm:=hkn;exact hm (hkn▸List.getElem_mem hk')
def aNW(ps:List Pt)(out:List T)(t:T):Nat->List T
 |0=>out
 |l+1=>aMJ ps (aNW ps out t l) t.name (fth t.fields l)
theorem aUA(ps:List Pt)(out:List T)(t:T)(l:Nat):tyIx (midT ps out t l) t.name=(atT out t:Int):=by
 have hat:=aP0 ps out t;have hnm:=aST ps out t l;have hlen:=aIF ps out t l;rcases aEL (midT ps out t l) t.name with⟨-,h2⟩| ⟨k,hk1,hk,hkn,hk2⟩
 ·exact absurd hnm (h2 _ (by rw[hlen];exact hat))
 ·rw[hk1];by_cases e:k=atT out t
  ·rw[e]
  ·exfalso
   have hlt:k<atT out t:=by
    rcases Nat.lt_or_gt_of_ne e with h| h
    ·exact h
    ·exact absurd hnm (hk2 _ h)
   unfold midT at hkn;rw[aFX _ _ _ _ e] at hkn;rcases aEL out t.name with⟨h1,h2⟩| ⟨g,hg1,hg,hgn,hg2⟩
   ·have ha:atT out t=out.length:=by unfold atT;rw[if_neg h1]
    rw[ha] at hlt;unfold aD5 at hkn;rw[if_neg h1,aEX _ _ _ hlt] at hkn;exact h2 k hlt hkn
   ·have ha:atT out t=g:=by unfold atT;rw[hg1,if_pos (by omega),Int.toNat_natCast]
    rw[ha] at hlt;unfold aD5 at hkn;rw[hg1,if_pos (by omega)] at hkn
    exact hg2 k hlt hkn
theorem aMO(ps:List Pt)(out:List T)(t:T):∀l,aNW ps out t (l+1)=midT ps out t (l+1)
 |0=>by
  rw[aNW,aNW,aJL,aN7];unfold aMJ aD5 atT;rcases aEL out t.name with⟨h1,-⟩| ⟨g,hg1,hg,-⟩
  ·rw[if_neg h1,if_neg h1,if_neg h1,aDR];simp
  ·rw[hg1];simp
 |l+1=>by
  rw[aNW,aMO ps out t l,aJL ps out t (l+1)];unfold aMJ;rw[aUA,if_pos (by omega),Int.toNat_natCast]
theorem aKG(ps:List Pt){X:Su}(h:SuOk X)(i:Nat)(t:T):∀l,aEG ps (X.flds i t l)=aNW ps (aEG ps X) t l
 |0=>rfl
 |l+1=>by rw[Su.flds,aS7 ps (h.flds i t l),aKG ps h i t l,aNW]
theorem aM0(ps:List Pt){p:Pt}(hp:okP p=true){X:Su}(h:SuOk X)(i:Nat):∀k,k<=p.types.length->aEG ps (X.tys i p k)=aC9 ps p (aEG ps X) k
 |0,_=>rfl
 |k+1,hk=>by
  have h0:=(aCI (aEI hp (i:=k) (by omega))).1
  rw[Su.tys,Su.look,aKG ps ((h.tys i p k).key _),aC9,<-aGQ];have e:aEG ps ((X.tys i p k).key (tth p.types k))=aEG ps (X.tys i p k):=by
   obtain⟨h1,h2,h3⟩:=aPG (X.tys i p k) (tth p.types k);unfold aEG;rw[h1];apply List.map_congr_left;intro m _;unfold outT;rw[h2,h3]
  rw[e,aM0 ps hp h i k (by omega)]
  obtain⟨q,hq⟩:∃q,(tth p.types k).fields.length=q+1:=⟨_,(Nat.succ_pred_eq_of_pos h0).symm⟩;rw[hq];exact aMO _ _ _ _
theorem aIZ{ps:List Pt}(h:∀i,i<ps.length->okP (pth ps i)=true):∀i,i<=ps.length->aEG ps (suTo ps i)=aBW ps i
 |0,_=>rfl
 |i+1,hi=>by rw[suTo,aM0 ps (h i (by omega)) (aNV ps i) i _ (Nat.le_refl _),aIZ h i (by omega),aBW]
theorem aRS{ps:List Pt}(h:∀i,i<ps.length->okP (pth ps i)=true):aEG ps (suM ps)=(allM ps).types:=aIZ h _ (Nat.le_refl _)
def aGP:List ByteArray->ByteArray
 |[]=>ByteArray.empty
 |k::_=>k
theorem aJI(ps:List Pt)(nm:ByteArray):∀n,(∀i,i<n->(aA5 (pth ps i) nm).key.toList.isEmpty=true)->kyTo ps nm n=[]
 |0,_=>rfl
 |n+1,h=>by rw[kyTo,aJI ps nm n fun i hi=>h i (by omega),h n (by omega)];rfl
theorem aP3(ps:List Pt)(nm:ByteArray)(m:Nat):∀n,m<=n->∃r,kyTo ps nm n=kyTo ps nm m++r
 |0,h=>⟨[],by rw[Nat.le_zero.1 h];simp⟩
 |n+1,h=>by
  by_cases e:m=n+1
  ·subst e;exact⟨[],by simp⟩
  ·obtain⟨r,hr⟩:=aP3 ps nm m n (by omega)
   exact⟨_,by rw[kyTo,hr,List.append_assoc]⟩
theorem aJB(ps:List Pt)(nm:ByteArray):keyM ps nm=aGP (kyTo ps nm ps.length):=by
 unfold keyM;have hx:aOC ps nm=aA9 (fun i=>!(aA5 (pth ps i) nm).key.toList.isEmpty) ps.length:=rfl;rcases aA8 (fun i=>!(aA5 (pth ps i) nm).key.toList.isEmpty) ps.length with⟨h2,h3⟩| ⟨g,h2,hg,hq,h3⟩
 ·rw[hx,h2,if_neg (by omega),aJI ps nm _ fun i hi=>by simpa using h3 i hi]
  rfl
 ·rw[hx,h2,if_pos (by omega),Int.toNat_natCast]
  obtain⟨r,hr⟩:=aP3 ps nm (g+1) ps.length (by omega)
  have h0:=aJI ps nm g fun i hi=>by simpa using h3 i hi
  have hq':(aA5 (pth ps g) nm).key.toList.isEmpty=false:=by simpa using hq
  rw[hr,kyTo,h0,hq'];rfl
theorem aLP(ps:List Pt)(nm n:ByteArray)(q:F->Bool):∀k,(sdTo ps nm n k).all q=aA7 (fun i=>!(sayB (pth ps i) nm n)||q (sayF (pth ps i) nm n)) k
 |0=>rfl
 |k+1=>by
  rw[sdTo,List.all_append,aLP ps nm n q k,aA7];cases sayB (pth ps k) nm n<;>simp
theorem aH7(ps:List Pt)(nm n:ByteArray)(q:F->Bool):∀k,(sdTo ps nm n k).countP q=cntP (fun i=>sayB (pth ps i) nm n&&q (sayF (pth ps i) nm n)) k
 |0=>rfl
 |k+1=>by
  rw[sdTo,List.countP_append,aH7 ps nm n q k,cntP];cases sayB (pth ps k) nm n
  ·simp
  ·cases hq:q (sayF (pth ps k) nm n)<;>simp[hq]
def aBH(f:F)(L:List F):Bool:=L.all fun g=>(g.of.toList==f.of.toList)&&(g.list==f.list)&&(g.must==f.must)
theorem aIS{α:Type}[BEq α][LawfulBEq α](a b:α):(a==b)=(b==a):=by
 by_cases h:a=b
 ·subst h;rfl
 ·have h1:(a==b)=false:=by simpa using h
  have h2:(b==a)=false:=by simpa using fun e=>h e.symm
  rw[h1,h2]
theorem aR2(ps:List Pt)(nm:ByteArray)(f:F)(k:Nat):aBH f (sdTo ps nm f.name k)=aA7 (aEJ ps nm f) k:=by
 unfold aBH;rw[aLP]
 congr 1
 funext i
 unfold aEJ aHW;rw[aIS f.of.toList,aIS f.list,aIS f.must]
def aBP(L:List F):Nat:=L.countP fun g=>g.shared
def aBL(L:List F):Bool:=L.any fun g=>decide (0<g.needs.length)
theorem aNQ(ps:List Pt)(nm n:ByteArray)(k:Nat):aBP (sdTo ps nm n k)=cntP (aE2 ps nm n) k:=aH7 ps nm n _ k
theorem aM6(ps:List Pt)(nm n:ByteArray)(k:Nat):aBL (sdTo ps nm n k)=decide (0<cntP (aAI ps nm n) k):=by
 have h:=aH7 ps nm n (fun g=>decide (0<g.needs.length)) k;have e:cntP (aAI ps nm n) k=(sdTo ps nm n k).countP fun g=>decide (0<g.needs.length):=h.symm;rw[e];unfold aBL;cases ha:(sdTo ps nm n k).any fun g=>decide (0<g.needs.length)
 ·symm
  rw[decide_eq_false_iff_not,Nat.not_lt,Nat.le_zero,List.countP_eq_zero];intro a hm hp;rw[List.any_eq_false] at ha;exact ha a hm hp
 ·symm
  rw[decide_eq_true_eq,List.countP_pos_iff];rw[List.any_eq_true] at ha;exact ha
theorem aIV(q:Nat->Bool):∀k,cntP q k=0↔∀i,i<k->q i=false
 |0=>by simp[cntP]
 |k+1=>by
  rw[cntP];cases hq:q k
  ·simp only[Bool.false_eq_true,if_false,Nat.add_zero,aIV q k];exact⟨fun h i hi=>by
    by_cases e:i=k
    ·rw[e];exact hq
    ·exact h i (by omega),fun h i hi=>h i (by omega)⟩
  ·simp only[if_true];exact⟨fun h=>by omega,fun h=>by rw[h k (by omega)] at hq;cases hq⟩
theorem aV7{p:Pt}(h:okP p=true){nm n:ByteArray}(hs:sayB p nm n=true)(hsh:(sayF p nm n).shared=true):(sayF p nm n).far=false:=by
 obtain⟨k,hk,hkl,-⟩:=aC8 (aIN hs);have hs':=hs;unfold sayB at hs';rw[decide_eq_true_eq,aDT hk] at hs';obtain⟨l,hl,hll,-⟩:=aDC hs';have e:sayF p nm n=fth (tth p.types k).fields l:=by unfold sayF;rw[aDT hk,aHA hl]
 rw[e] at hsh ⊢;have h0:=aEI h hkl;unfold aAG at h0;by_cases a:aAO (tth p.types k)=false
 ·rw[if_pos a] at h0;omega
 rw[if_neg a] at h0;by_cases b:aCH p.types k (tth p.types k)=true
 ·rw[if_pos b] at h0;omega
 rw[if_neg b] at h0;by_cases c:aBY p (tth p.types k).fields (tth p.types k).fields.length=false
 ·rw[if_pos c] at h0;omega
 rw[if_neg c] at h0;by_cases d:keyB (tth p.types k)=false
 ·rw[if_pos d] at h0;omega
 rw[if_neg d] at h0;by_cases g:aB4 (tth p.types k) (tth p.types k).fields.length=false
 ·rw[if_pos g] at h0;omega
 have g':aB4 (tth p.types k) (tth p.types k).fields.length=true:=by simpa using g
 have g2:=List.all_eq_true.1 g' l (by simpa using hll)
 simp only[aDJ,Bool.and_eq_true,Bool.not_eq_true',Bool.and_eq_false_iff] at g2;rcases g2.2 with h9| h9
 ·exact h9
 ·rw[h9] at hsh;cases hsh
theorem aGW{ps:List Pt}(h:∀i,i<ps.length->okP (pth ps i)=true)(nm n:ByteArray):∀k,k<=ps.length->cntP (aE2 ps nm n) k<=(aBU ps nm n k).length
 |0,_=>Nat.le_refl _
 |k+1,hk=>by
  have ih:=aGW h nm n k (by omega)
  rw[cntP,aBU,List.length_append];cases hs:aE2 ps nm n k
  ·simp only[Bool.false_eq_true,if_false];omega
  ·simp only[aE2,Bool.and_eq_true] at hs;have hf:=aV7 (h k (by omega)) hs.1 hs.2
   have:aGF (pth ps k) nm n=true:=by unfold aGF;rw[hs.1,hf];rfl
   rw[if_pos this];simp only[if_true,List.length_singleton];omega
def aAS(ps:List Pt)(nm:ByteArray)(f:F):Bool:=
 decide ((aAW ps nm f.name).length=0)||(decide (1<(aAW ps nm f.name).length)&&!(f.name.toList==(keyM ps nm).toList)&&!decide (aBP (sdTo ps nm f.name ps.length)=(aAW ps nm f.name).length))||
  ((decide (1<(aAW ps nm f.name).length)&&aBL (sdTo ps nm f.name ps.length))||f.needs.any fun need=>aBL (sdTo ps nm need ps.length))
theorem aQQ(ps:List Pt)(nm:ByteArray)(f:F):(f.needs.any fun need=>aBL (sdTo ps nm need ps.length))=!aC4 ps nm f:=by
 have h1:∀need,aBL (sdTo ps nm need ps.length)=!aA7 (fun k=>!(aAI ps nm need k)) ps.length:=fun need=>by
  rw[aM6];cases ha:aA7 (fun k=>!(aAI ps nm need k)) ps.length
  ·rw[Bool.not_false,decide_eq_true_eq];rcases Nat.eq_zero_or_pos (cntP (aAI ps nm need) ps.length) with h0| h0
   ·rw[aIV] at h0;have:aA7 (fun k=>!(aAI ps nm need k)) ps.length=true:=(aBK _ _).2 fun i hi=>by rw[h0 i hi];rfl
    rw[this] at ha;cases ha
   ·exact h0
  ·rw[Bool.not_true,decide_eq_false_iff_not,Nat.not_lt,Nat.le_zero,aIV];intro i hi;simpa using(aBK _ _).1 ha i hi
 unfold aC4;cases ha:aA7 (fun i=>aA7 (fun k=>!(aAI ps nm (nth f.needs i) k)) ps.length) f.needs.length
 ·rw[Bool.not_false,List.any_eq_true];by_cases hc:∃i,i<f.needs.length∧aA7 (fun k=>!(aAI ps nm (nth f.needs i) k)) ps.length=false
  ·obtain⟨i,hi,hq⟩:=hc;refine⟨nth f.needs i,by simp[nth,List.getD_eq_getElem?_getD,hi],?_⟩
   rw[h1,hq];rfl
  ·have:aA7 (fun i=>aA7 (fun k=>!(aAI ps nm (nth f.needs i) k)) ps.length) f.needs.length=true:=(aBK _ _).2 fun i hi=>by
    cases hq:aA7 (fun k=>!(aAI ps nm (nth f.needs i) k)) ps.length
    ·exact absurd ⟨i,hi,hq⟩ hc
    ·rfl
   rw[this] at ha;cases ha
 ·rw[Bool.not_true,List.any_eq_false];intro x hx;obtain⟨i,hi,e⟩:=List.mem_iff_getElem.1 hx;have h2:=(aBK _ _).1 ha i hi;have e2:nth f.needs i=x:=by rw[<-e];simp[nth,List.getD_eq_getElem?_getD,hi]
  rw[e2] at h2;rw[h1,h2]
  decide
theorem aH4{ps:List Pt}(h:∀i,i<ps.length->okP (pth ps i)=true)(nm:ByteArray)(f:F)(ha:aA7 (aEJ ps nm f) ps.length=true):aAS ps nm f=false↔aB0 ps nm f=0:=by
 have hle:=aGW h nm f.name _ (Nat.le_refl _);have ho:(aBU ps nm f.name ps.length).length=(aAW ps nm f.name).length:=rfl;rw[ho] at hle;unfold aAS aB0;rw[aQQ,aNQ,aM6,ha];generalize (aAW ps nm f.name).length=o at*;generalize cntP (aE2 ps nm f.name) ps.length=s at*;generalize cntP (aAI ps nm f.name) ps.length=d at*;generalize (f.name.toList==(keyM ps nm).toList)=b;generalize aC4 ps nm f=q;rw[if_neg (by simp)]
 by_cases h0:o=0
 ·subst h0;simp
 rw[if_neg h0];by_cases h1:1<o
 ·have hd1:decide (1<o)=true:=decide_eq_true h1;have hd0:decide (o=0)=false:=decide_eq_false h0;rw[hd0,hd1];cases b
  ·by_cases h2:s<o
   ·rw[if_pos ⟨h1,rfl,h2⟩,decide_eq_false (show¬s=o by omega)]
    simp
   ·rw[if_neg (fun e=>h2 e.2.2),decide_eq_true (show s=o by omega)]
    by_cases h3:0<d
    ·rw[if_pos ⟨h3,h1⟩,decide_eq_true h3];simp
    ·rw[if_neg (fun e=>h3 e.1),decide_eq_false h3];cases q<;>simp
  ·rw[if_neg (by simp)]
   by_cases h3:0<d
   ·rw[if_pos ⟨h3,h1⟩,decide_eq_true h3];simp
   ·rw[if_neg (fun e=>h3 e.1),decide_eq_false h3];cases q<;>simp
 ·have hd1:decide (1<o)=false:=decide_eq_false h1;have hd0:decide (o=0)=false:=decide_eq_false h0;rw[hd0,hd1,if_neg (fun e=>h1 e.1),if_neg (fun e=>h1 e.2)];cases q<;>simp
def aE4(ps:List Pt):Bool:=aA7 (fun i=>aA7 (fun k=>aCO ps (tth (pth ps i).types k)&&aA7 (fun l=>aBH (fth (tth (pth ps i).types k).fields l) (sdTo ps (tth (pth ps i).types k).name (fth (tth (pth ps i).types k).fields l).name ps.length)) (tth (pth ps i).types k).fields.length) (pth ps i).types.length) ps.length
def aE5(ps:List Pt):Bool:=aA7 (fun i=>aA7 (fun k=>aA7 (fun l=>!aAS ps (tth (pth ps i).types k).name (fth (tth (pth ps i).types k).fields l)) (tth (pth ps i).types k).fields.length) (pth ps i).types.length) ps.length
theorem aKS{ps:List Pt}(h:∀i,i<ps.length->okP (pth ps i)=true):(aE4 ps&&aE5 ps)=aA7 (fun i=>aA7 (fun k=>aC7 ps (tth (pth ps i).types k)) (pth ps i).types.length) ps.length:=by
 have hb:∀a b:Bool,(a=true↔b=true)->a=b:=fun a b=>by cases a<;>cases b<;>simp
 apply hb;rw[Bool.and_eq_true];unfold aE4 aE5;simp only[aBK,aC7,Bool.and_eq_true,Bool.not_eq_true',beq_iff_eq];have hal:∀nm (f:F),aBH f (sdTo ps nm f.name ps.length)=true↔aA7 (aEJ ps nm f) ps.length=true:=fun nm f=>by rw[aR2]
 constructor
 ·rintro⟨h1,h2⟩ i hi k hk;refine⟨(h1 i hi k hk).1,fun l hl=>?_⟩;exact(aH4 h _ _ ((hal _ _).1 ((h1 i hi k hk).2 l hl))).1 (h2 i hi k hk l hl)
 ·intro h1;have h3:∀i,i<ps.length->∀k,k<(pth ps i).types.length->∀l,l<(tth (pth ps i).types k).fields.length->aA7 (aEJ ps (tth (pth ps i).types k).name (fth (tth (pth ps i).types k).fields l)) ps.length=true:=fun i hi k hk l hl=>by
   have h4:=(h1 i hi k hk).2 l hl;unfold aB0 at h4;cases ha:aA7 (aEJ ps (tth (pth ps i).types k).name (fth (tth (pth ps i).types k).fields l)) ps.length
   ·rw[if_pos ha] at h4;omega
   ·rfl
  exact⟨fun i hi k hk=>⟨(h1 i hi k hk).1,fun l hl=>(hal _ _).2 (h3 i hi k hk l hl)⟩,fun i hi k hk l hl=>(aH4 h _ _ (h3 i hi k hk l hl)).2 ((h1 i hi k hk).2 l hl)⟩
end Go.Proofs.YtcebpkeiaiiphaaGreatDoor
