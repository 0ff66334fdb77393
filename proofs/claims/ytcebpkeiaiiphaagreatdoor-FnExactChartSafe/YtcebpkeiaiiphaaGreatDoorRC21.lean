import Derived.Test.YtcebpkeiaiiphaaGreatDoorRC17
set_option linter.unusedSimpArgs false
set_option linter.unusedVariables false
namespace Go.Proofs.YtcebpkeiaiiphaaGreatDoor
open Go.RowKit
def fcT(p:Pt):Nat->Nat
 |0=>0
 |k+1=>fcT p k+(tth p.types k).fields.length+1
def fcP(ps:List Pt):Nat->Nat
 |0=>0
 |i+1=>fcP ps i+fcT (pth ps i) (pth ps i).types.length
theorem aTU(p:Pt){k j:Nat}(h:k<=j):fcT p k<=fcT p j:=by
 induction h with
 |refl=>exact Nat.le_refl _
 |step _ ih=>rw[fcT];omega
theorem aV5(ps:List Pt){k j:Nat}(h:k<=j):fcP ps k<=fcP ps j:=by
 induction h with
 |refl=>exact Nat.le_refl _
 |step _ ih=>rw[fcP];omega
def BdH(out:List T)(M:Nat):Prop:=out.length<=M∧∀i,i<out.length->(tth out i).fields.length<=M
theorem aT1(t:T)(f:F):(putF t f).fields.length<=t.fields.length+1:=by
 unfold putF;split<;>simp
theorem aQR(o t:T)(n:Nat):(aF9 o t n).fields.length<=o.fields.length+n:=by
 induction n with
 |zero=>exact Nat.le_refl _
 |succ n ih=>
  rw[aF9];have:=aT1 (aF9 o t n) (fth t.fields n);omega
theorem aPS(o t:T)(n:Nat):(aF9 o t n).name=o.name∧(aF9 o t n).key=o.key:=by
 induction n with
 |zero=>exact⟨rfl,rfl⟩
 |succ n ih=>
  rw[aF9,putF];split
  ·exact ih
  ·exact ih
def aD5(ps:List Pt)(out:List T)(t:T):List T:=if 0<=tyIx out t.name then out else out++[⟨t.name,keyM ps t.name,[]⟩]
def atT(out:List T)(t:T):Nat:=if 0<=tyIx out t.name then(tyIx out t.name).toNat else out.length
theorem aP0(ps:List Pt)(out:List T)(t:T):atT out t<(aD5 ps out t).length:=by
 unfold atT aD5;split
 ·rename_i h;have hx:tyIx out t.name=aA9 (fun i=>(tth out i).name.toList==t.name.toList) out.length:=rfl;rcases aA8 (fun i=>(tth out i).name.toList==t.name.toList) out.length with⟨h2,-⟩| ⟨g,h2,hg,-,-⟩
  ·rw[hx,h2] at h;omega
  ·rw[hx,h2];simpa using hg
 ·simp
def midT(ps:List Pt)(out:List T)(t:T)(n:Nat):List T:=(aD5 ps out t).set (atT out t) (aF9 (tth (aD5 ps out t) (atT out t)) t n)
theorem aLE(ts:List T)(k:Nat):ts.set k (tth ts k)=ts:=by
 apply List.ext_getElem?;intro i;by_cases e:k=i
 ·subst e;by_cases h:k<ts.length
  ·rw[List.getElem?_set_self h];simp[tth,List.getD_eq_getElem?_getD,h]
  ·rw[List.getElem?_eq_none (by simp;omega),List.getElem?_eq_none (by omega)]
 ·rw[List.getElem?_set_ne e]
theorem aN7(ps:List Pt)(out:List T)(t:T):midT ps out t 0=aD5 ps out t:=by
 unfold midT;rw[aF9];exact aLE _ _
theorem aIF(ps:List Pt)(out:List T)(t:T)(n:Nat):(midT ps out t n).length=(aD5 ps out t).length:=by simp[midT]
theorem aO2(ps:List Pt)(out:List T)(t:T)(n:Nat):tth (midT ps out t n) (atT out t)=aF9 (tth (aD5 ps out t) (atT out t)) t n:=by
 unfold midT;exact aHO _ _ _ (aP0 ps out t)
theorem aJL(ps:List Pt)(out:List T)(t:T)(n:Nat):midT ps out t (n+1)=(midT ps out t n).set (atT out t) (putF (tth (midT ps out t n) (atT out t)) (fth t.fields n)):=by
 rw[aO2];unfold midT;rw[List.set_set];rfl
theorem aGQ(ps:List Pt)(out:List T)(t:T):midT ps out t t.fields.length=aQS ps out t:=by
 unfold midT aQS aD5 atT;by_cases h:0<=tyIx out t.name
 ·simp only[if_pos h]
 ·simp only[if_neg h];rw[aDR];simp
theorem BdH.base{ps:List Pt}{out:List T}{M:Nat}(h:BdH out M)(t:T):BdH (aD5 ps out t) (M+1):=by
 unfold aD5;split
 ·exact⟨Nat.le_succ_of_le h.1,fun i hi=>Nat.le_succ_of_le (h.2 i hi)⟩
 ·refine⟨by simpa using h.1,fun i hi=>?_⟩
  have hi':i<out.length+1:=by simpa using hi
  by_cases e:i<out.length
  ·rw[aEX _ _ _ e];exact Nat.le_succ_of_le (h.2 i e)
  ·have:i=out.length:=by omega
   subst this;rw[aDR];exact Nat.zero_le _
theorem BdH.mid{ps:List Pt}{out:List T}{M:Nat}(h:BdH out M)(t:T)(n:Nat):BdH (midT ps out t n) (M+n+1):=by
 have hb:=h.base (ps:=ps) t;refine⟨by rw[aIF];have:=hb.1;omega,fun i hi=>?_⟩
 rw[aIF] at hi;by_cases e:i=atT out t
 ·subst e;rw[aO2];have:=aQR (tth (aD5 ps out t) (atT out t)) t n;have:=hb.2 _ hi;omega
 ·unfold midT;rw[aFX _ _ _ _ e];have:=hb.2 _ hi;omega
theorem BdH.types{ps:List Pt}{p:Pt}{out:List T}{M:Nat}(h:BdH out M)(k:Nat):BdH (aC9 ps p out k) (M+fcT p k):=by
 induction k with
 |zero=>exact h
 |succ k ih=>
  rw[aC9,fcT,<-aGQ];have:=ih.mid (ps:=ps) (tth p.types k) (tth p.types k).fields.length;rw[show M+(fcT p k+(tth p.types k).fields.length+1)=M+fcT p k+(tth p.types k).fields.length+1 by omega]
  exact this
theorem BdH.parts(ps:List Pt)(i:Nat):BdH (aBW ps i) (fcP ps i):=by
 induction i with
 |zero=>exact⟨Nat.le_refl _,fun i hi=>absurd hi (Nat.not_lt_zero _)⟩
 |succ i ih=>rw[aBW,fcP];exact ih.types _
def aB6(fs:List F):Nat->List UInt8
 |0=>[]
 |n+1=>aB6 fs n++(aGN (fth fs n)).data.toList
def keyL(t:T):List UInt8:=if t.key.toList.isEmpty=true then[] else[32,107,101,121,32]++t.key.data.toList
def aBF(t:T):List UInt8:=[116,121,112,101,32]++t.name.data.toList++keyL t++[10]
def aAZ(ts:List T):Nat->List UInt8
 |0=>[]
 |n+1=>aAZ ts n++(aBF (tth ts n)++aB6 (tth ts n).fields (tth ts n).fields.length)
def aAK(p:Pt):List UInt8:=[112,97,114,116,32]++p.name.data.toList++[10]
def aCU(p:Pt):List UInt8:=aAK p++aAZ p.types p.types.length
theorem aEM(fs:List F)(k:Nat):∀n,k<=n->(aB6 fs k).length<=(aB6 fs n).length
 |0,h=>by rw[show k=0 by omega];exact Nat.le_refl _
 |n+1,h=>by
  by_cases e:k=n+1
  ·rw[e];exact Nat.le_refl _
  ·have:=aEM fs k n (by omega);rw[aB6,List.length_append];omega
theorem aJD(ts:List T)(k:Nat):∀n,k<=n->(aAZ ts k).length<=(aAZ ts n).length
 |0,h=>by rw[show k=0 by omega];exact Nat.le_refl _
 |n+1,h=>by
  by_cases e:k=n+1
  ·rw[e];exact Nat.le_refl _
  ·have:=aJD ts k n (by omega);rw[aAZ,List.length_append];omega
theorem Bld.fresh(w:World)(N:Nat)(hN:w.heap.size=N):Bld N N [] (w.alloc (.cells #[.pointer none,.slice none 0 0] 166)):=by
 subst hN;exact Or.inl ⟨Nat.le_refl _,.slice none 0 0,heap_alloc_new w _,⟨rfl,Or.inl ⟨rfl,rfl⟩⟩,by simp[Value.ownBlock]⟩
theorem aQX(g:Nat->Nat)(k:Nat):∀n,k<n->g k<=((List.range n).map g).sum
 |0,h=>by omega
 |n+1,h=>by
  rw[List.range_succ,List.map_append,List.sum_append];by_cases e:k=n
  ·subst e;simp
  ·have:=aQX g k n (by omega);omega
theorem aOO(p:Pt)(k:Nat)(h:k<p.types.length)(hz:szP p<=1048576):szT (tth p.types k)<=1048576:=by
 have h1:=aQX (fun i=>szT (tth p.types i)) k _ h;have h2:p.name.size+(p.types.length+aB1 p.types p.types.length)<=1048576:=hz;have h3:aB1 p.types p.types.length=((List.range p.types.length).map fun i=>szT (tth p.types i)).sum:=rfl;omega
theorem aOW(t:T)(k:Nat)(h:k<t.fields.length)(hz:szT t<=1048576):szF (fth t.fields k)<=1048576:=by
 have h1:=aQX (fun i=>szF (fth t.fields i)) k _ h;have h2:t.name.size+t.key.size+(t.fields.length+aBE t.fields t.fields.length)<=1048576:=hz;have h3:aBE t.fields t.fields.length=((List.range t.fields.length).map fun i=>szF (fth t.fields i)).sum:=rfl;omega
theorem tl(a:ByteArray):a.data.toList.length=a.size:=Array.length_toList
set_option maxHeartbeats 3200000 in
theorem aM1(p:Pt)(w:World)(B:Nat)(v:Value)(hP:PRep w (·<B) p v)(hB:B<=w.heap.size)(hz:szP p<=1048576)(hl:(aCU p).length<=70368744177664):
  Calls Tryz.prog 97 #[v] w fun e w'=>e=.returned (.string ⟨(aCU p).toArray⟩)∧Below w.heap.size w w':=by
 obtain⟨pname,types⟩:=p;obtain⟨ta,tc,rfl,hK,hnc,hpn⟩:=hP;simp only at hK hnc hpn;have h56:=hK.1;have hl2:(aAK ⟨pname,types⟩).length+(aAZ types types.length).length<=70368744177664:=by rw[<-List.length_append];exact hl
 have hpz:pname.size<=1048576:=by have:pname.size+szTs types<=1048576:=hz;omega
 have HP0:Hid (aCU ⟨pname,types⟩=aAK ⟨pname,types⟩++aAZ types types.length):=rfl;have HH:Hid ((⟨#[112,97,114,116,32]⟩++pname++⟨#[10]⟩:ByteArray).data.toList=aAK ⟨pname,types⟩):=by show _=_;rw[aAD,aAD];rfl
 have hfr:=Bld.fresh (w.alloc (.cells #[.string pname,.slice ta types.length tc] 46)) (w.heap.size+1) (by simp)
 have b1:5+pname.size<=9223372036854775807:=by omega
 have b2:5+pname.size+1<=9223372036854775807:=by omega
 have PC:∀W,Below (w.heap.size+1) (w.alloc (.cells #[.string pname,.slice ta types.length tc] 46)) W->W.cell? ⟨w.heap.size,1,none⟩=some (.slice ta types.length tc):=fun W h=>(h.cell (p:=⟨w.heap.size,1,none⟩) (by show w.heap.size<_;omega)).trans (aBC _ _ 1 (by simp))
 go_enter Tryz.func97,Tryz.ntmps97
 go_wp2_with (
  go_at_call 92
  refine(aBR (w.heap.size+1) (w.heap.size+1) [] _ _ hfr ?_ (by simp)).mono ?_
  ·simp only[List.length_nil,ByteArray.size_append,aCB,List.size_toArray,List.length_cons];omega
  rintro e w1 ⟨rfl,hbd1,hbe1,hke1⟩;have hbl1:Below (w.heap.size+1) (w.alloc (.cells #[.string pname,.slice ta types.length tc] 46)) w1:=((Below.refl _ _).alloc (by simp) _).trans hbe1
  have pc1:=PC w1 hbl1)
 rw[List.nil_append,HH.out] at hbd1;go_loopw [16] (fun i wr=>∃k:Nat,k<=types.length∧i=.int .i64 k∧Bld (w.heap.size+1) (w.heap.size+1) (aAK ⟨pname,types⟩++aAZ types k) wr∧Below (w.heap.size+1) (w.alloc (.cells #[.string pname,.slice ta types.length tc] 46)) wr∧w.heap.size+1<wr.heap.size) (fun i _=>types.length- (intOf i).toNat)
 case atStart=>exact⟨0,Nat.zero_le _,rfl,by rw[aAZ,List.append_nil];exact hbd1,hbl1,by have:=hbe1.size;simp at this;omega⟩
 case round=>
  clear hbd1 hbe1 hke1 hbl1 pc1;obtain⟨k,hk,rfl,hbd,hbl,hsz⟩:=hrel;obtain⟨w0,rfl⟩:∃x,x=wr:=⟨wr,rfl⟩;have hbw:Below w.heap.size w w0:=(aA2 w _).trans (hbl.mono (by omega))
  by_cases hlt:k<types.length
  ·obtain⟨b,off,fa,fc,rfl,htr,hcs⟩:=hK.at hB k hlt;obtain⟨c0,c1,c2⟩:=hcs w0 hbw;obtain⟨fa',fc',e0,e1,e2,hfs,hffc,hs1,hs2⟩:=htr.parts;simp only[Value.slice.injEq] at e2;obtain⟨rfl,-,rfl⟩:=e2;have hf56:=hfs.1;have hszT:=aOO ⟨pname,types⟩ k hlt hz;simp only at hszT;have hszT2:(tth types k).name.size+(tth types k).key.size+szFs (tth types k).fields<=1048576:=hszT;have hlk:=aJD types (k+1) _ hlt;rw[aAZ,List.length_append,List.length_append] at hlk;have HTY:Hid (aBF (tth types k)=[116,121,112,101,32]++(tth types k).name.data.toList++keyL (tth types k)++[10]):=rfl;have hthl:(aBF (tth types k)).length=5+(tth types k).name.size+(keyL (tth types k)).length+1:=by rw[HTY.out];simp only[List.length_append,tl,List.length_cons,List.length_nil]
   have b3:5+(tth types k).name.size<=9223372036854775807:=by omega
   have b4:5+(tth types k).key.size<=9223372036854775807:=by omega
   clear hcs htr e0 e1;have hbd0:=hbd.kept (aA2 w0 (.cells #[.string (tth types k).name,.string (tth types k).key,.slice fa (tth types k).fields.length fc] 96));have hW1:=aBR (w.heap.size+1) (w.heap.size+1) _ (⟨#[116,121,112,101,32]⟩++(tth types k).name) _ hbd0 (by simp only[List.length_append,ByteArray.size_append,aCB,List.size_toArray,List.length_cons,List.length_nil];omega) (by simp;omega)
   have hk0:=heap_alloc_new w0 (.cells #[.string (tth types k).name,.string (tth types k).key,.slice fa (tth types k).fields.length fc] 96);have TC:∀W:World,W.heap[w0.heap.size]?=some (.cells #[.string (tth types k).name,.string (tth types k).key,.slice fa (tth types k).fields.length fc] 96 (0,0))->W.cell? ⟨w0.heap.size,1,none⟩=some (.string (tth types k).key)∧W.cell? ⟨w0.heap.size,2,none⟩=some (.slice fa (tth types k).fields.length fc):=fun W h=>⟨(aA1 h 1 (by simp)).1,(aA1 h 2 (by simp)).1⟩
   cases hke:(tth types k).key.toList.isEmpty
   ·have hkl:keyL (tth types k)=[32,107,101,121,32]++(tth types k).key.data.toList:=by rw[keyL,if_neg (by rw[hke];simp)]
    have hkll:(keyL (tth types k)).length=5+(tth types k).key.size:=by rw[hkl];simp only[List.length_append,tl,List.length_cons,List.length_nil]
    have hW2:=fun W1 (h:Bld (w.heap.size+1) (w.heap.size+1) (aAK ⟨pname,types⟩++aAZ types k++(⟨#[116,121,112,101,32]⟩++(tth types k).name:ByteArray).data.toList) W1) hs=>aBR (w.heap.size+1) (w.heap.size+1) _ (⟨#[32,107,101,121,32]⟩++(tth types k).key) W1 h (by simp only[List.length_append,ByteArray.size_append,tl,aCB,List.size_toArray,List.length_cons,List.length_nil];omega) hs
    have hW3:=fun W1 (h:Bld (w.heap.size+1) (w.heap.size+1) (aAK ⟨pname,types⟩++aAZ types k++(⟨#[116,121,112,101,32]⟩++(tth types k).name:ByteArray).data.toList++(⟨#[32,107,101,121,32]⟩++(tth types k).key:ByteArray).data.toList) W1) hs=>aEU (w.heap.size+1) (w.heap.size+1) _ 10 W1 h (by simp only[List.length_append,ByteArray.size_append,tl,aCB,List.size_toArray,List.length_cons,List.length_nil];omega) hs
    go_wp2_with (first
     |(
      go_at_call_of 92 ((tth types k).name)
      refine hW1.mono ?_;rintro e w1 ⟨rfl,hbd1,hbe1,hke1⟩;have hk1:=hke1.block hk0 (by omega) (by decide)
      obtain⟨t11,t12⟩:=TC w1 hk1;have z1:=hbe1.size;simp at z1)
     |(
      go_at_call_of 92 ((tth types k).key)
      refine(hW2 w1 hbd1 (by omega)).mono ?_
      rintro e w2 ⟨rfl,hbd2,hbe2,hke2⟩;have hk2:=hke2.block hk1 (by omega) (by decide)
      obtain⟨t21,t22⟩:=TC w2 hk2;have z2:=hbe2.size)
     |(
      go_at_call 137
      have hwb:=hW3 w2 hbd2 (by omega)
      rw[show(((10:UInt8).toNat:Nat):Int)=10 from rfl] at hwb
      refine hwb.mono ?_;rintro e w3 ⟨rfl,hbdX,hbe3,hke3⟩;have hkX:=hke3.block hk2 (by omega) (by decide)
      obtain⟨t31,t32⟩:=TC w3 hkX))
    ·have hblX:Below (w.heap.size+1) (w.alloc (.cells #[.string pname,.slice (some ⟨b,off,none⟩) types.length tc] 46)) w3:=(((hbl.alloc (by omega) _).trans hbe1).trans hbe2).trans hbe3
     have HTH:Hid (aAK ⟨pname,types⟩++aAZ types k++aBF (tth types k)=aAK ⟨pname,types⟩++aAZ types k++(⟨#[116,121,112,101,32]⟩++(tth types k).name:ByteArray).data.toList++(⟨#[32,107,101,121,32]⟩++(tth types k).key:ByteArray).data.toList++[10]):=by
      show _=_;rw[HTY.out,hkl,aAD,aAD];simp
     clear hbd1 hbe1 hke1 hk1 hbd2 hbe2 hke2 hk2 hbe3 hke3 hbd0 hW1 hk0;go_loopw [35] (fun i w2=>∃j:Nat,j<=(tth types k).fields.length∧i=.int .i64 j∧Bld (w.heap.size+1) (w.heap.size+1) (aAK ⟨pname,types⟩++aAZ types k++aBF (tth types k)++aB6 (tth types k).fields j) w2∧Below (w.heap.size+1) (w.alloc (.cells #[.string pname,.slice (some ⟨b,off,none⟩) types.length tc] 46)) w2∧w2.heap[w0.heap.size]?=some (.cells #[.string (tth types k).name,.string (tth types k).key,.slice fa (tth types k).fields.length fc] 96 (0,0))) (fun i _=>(tth types k).fields.length- (intOf i).toNat)
     case atStart=>exact⟨0,Nat.zero_le _,rfl,by rw[aB6,List.append_nil,HTH.out];exact hbdX,hblX,hkX⟩
     case round=>
      clear hbdX hblX hkX;obtain⟨w5,rfl⟩:∃x,x=wr:=⟨wr,rfl⟩;obtain⟨j,hj,rfl,hbd5,hbl5,hk5⟩:=hrel;have hw5:Below w.heap.size w w5:=(aA2 w _).trans (hbl5.mono (by omega))
      have z5:w0.heap.size<w5.heap.size:=(Array.getElem?_eq_some_iff.1 hk5).1;by_cases hjl:j<(tth types k).fields.length
      ·obtain⟨b2,off2,na,nc,rfl,hfr2,hcs2⟩:=hfs.at hB j hjl;obtain⟨c0,c1,c2,c3,c4,c5,c6,c7⟩:=hcs2 w5 hw5;have hsf:=aOW (tth types k) j hjl hszT;have hsf2:(fth (tth types k).fields j).name.size+(fth (tth types k).fields j).of.size+szNs (fth (tth types k).fields j).needs<=1048576:=hsf;obtain⟨-,-,-,-,-,-,-,-,hSt,hncc,-,-⟩:=hfr2.vals;have hln:=aEM (tth types k).fields j _ (Nat.le_of_lt hjl);have hwf:=fun w6 (hb6:Below (w5.heap.size+1) (w5.alloc (.cells #[.string (fth (tth types k).fields j).name,.string (fth (tth types k).fields j).of,.bool (fth (tth types k).fields j).list,.bool (fth (tth types k).fields j).must,.bool (fth (tth types k).fields j).far,.bool (fth (tth types k).fields j).hidden,.bool (fth (tth types k).fields j).shared,.slice na (fth (tth types k).fields j).needs.length nc] 80)) w6)=>aG7 (fth (tth types k).fields j).name (fth (tth types k).fields j).of (fth (tth types k).fields j).list (fth (tth types k).fields j).must (fth (tth types k).fields j).far (fth (tth types k).fields j).hidden (fth (tth types k).fields j).shared (fth (tth types k).fields j).needs na nc w6 (w.heap.size+1) (w.heap.size+1) _ (hbd5.kept ((aA2 w5 _).trans (hb6.mono (by omega)))) (by have:=hb6.size;simp at this;omega) (by have:=hb6.size;simp at this;omega) (by omega) (by omega) (by simp only[List.length_append] at hln ⊢;omega) ((hSt.under ((hw5.trans (((aA2 w5 _).trans (hb6.mono (by omega))).mono (by omega))).mono hB)).sub fun q hq=>by omega) hncc (by omega)
       clear hcs2;go_wp2_with (first
        |(
         go_at_call 139
         refine(aBN _ _ _ _ _ _ _ _ _ _ _).mono ?_;rintro e w6 ⟨rfl,hb6⟩;have hb6':=hb6.mono (show w5.heap.size+1<=_ by simp)
         have z6:=hb6.size;simp at z6)
        |(
         go_at_call 138
         refine(hwf w6 hb6').mono ?_;rintro e w7 ⟨rfl,hbd7,hbe7,hke7⟩))
       have hk6:w6.heap[w0.heap.size]?=some (.cells #[.string (tth types k).name,.string (tth types k).key,.slice (some ⟨b2,off2,none⟩) (tth types k).fields.length fc] 96 (0,0)):=(hb6.block _ (by simp;omega)).trans (((aA2 w5 _).block _ z5).trans hk5)
       go_roundw
       case rel=>exact⟨j+1,by omega,by go_num,by rw[aB6,<-List.append_assoc];exact hbd7,(hbl5.trans (((aA2 w5 _).trans (hb6.mono (by simp))).mono (by omega))).trans hbe7,hke7.block hk6 (by omega) (by decide)⟩
       case measure=>simp[intOf];omega
      ·go_wp2_with fail
       go_roundw
       case rel=>
        have ej:j=(tth types k).fields.length:=by omega
        refine⟨k+1,by omega,by go_num,?_,hbl5,by omega⟩
        rw[aAZ,<-List.append_assoc,<-List.append_assoc,<-ej];exact hbd5
       case measure=>simp[intOf];omega
   ·have hkl:keyL (tth types k)=[]:=by rw[keyL,if_pos hke]
    have hkll:(keyL (tth types k)).length=0:=by rw[hkl];rfl
    have hW3:=fun W1 (h:Bld (w.heap.size+1) (w.heap.size+1) (aAK ⟨pname,types⟩++aAZ types k++(⟨#[116,121,112,101,32]⟩++(tth types k).name:ByteArray).data.toList) W1) hs=>aEU (w.heap.size+1) (w.heap.size+1) _ 10 W1 h (by simp only[List.length_append,ByteArray.size_append,tl,aCB,List.size_toArray,List.length_cons,List.length_nil];omega) hs
    go_wp2_with (first
     |(
      go_at_call_of 92 ((tth types k).name)
      refine hW1.mono ?_;rintro e w1 ⟨rfl,hbd1,hbe1,hke1⟩;have hk1:=hke1.block hk0 (by omega) (by decide)
      obtain⟨t11,t12⟩:=TC w1 hk1;have z1:=hbe1.size;simp at z1)
     |(
      go_at_call 137
      have hwb:=hW3 w1 hbd1 (by omega)
      rw[show(((10:UInt8).toNat:Nat):Int)=10 from rfl] at hwb
      refine hwb.mono ?_;rintro e w3 ⟨rfl,hbdX,hbe3,hke3⟩;have hkX:=hke3.block hk1 (by omega) (by decide)
      obtain⟨t31,t32⟩:=TC w3 hkX))
    ·have hblX:Below (w.heap.size+1) (w.alloc (.cells #[.string pname,.slice (some ⟨b,off,none⟩) types.length tc] 46)) w3:=((hbl.alloc (by omega) _).trans hbe1).trans hbe3
     have HTH:Hid (aAK ⟨pname,types⟩++aAZ types k++aBF (tth types k)=aAK ⟨pname,types⟩++aAZ types k++(⟨#[116,121,112,101,32]⟩++(tth types k).name:ByteArray).data.toList++[10]):=by
      show _=_;rw[HTY.out,hkl,aAD];simp
     clear hbd1 hbe1 hke1 hk1 hbe3 hke3 hbd0 hW1 hk0;go_loopw [35] (fun i w2=>∃j:Nat,j<=(tth types k).fields.length∧i=.int .i64 j∧Bld (w.heap.size+1) (w.heap.size+1) (aAK ⟨pname,types⟩++aAZ types k++aBF (tth types k)++aB6 (tth types k).fields j) w2∧Below (w.heap.size+1) (w.alloc (.cells #[.string pname,.slice (some ⟨b,off,none⟩) types.length tc] 46)) w2∧w2.heap[w0.heap.size]?=some (.cells #[.string (tth types k).name,.string (tth types k).key,.slice fa (tth types k).fields.length fc] 96 (0,0))) (fun i _=>(tth types k).fields.length- (intOf i).toNat)
     case atStart=>exact⟨0,Nat.zero_le _,rfl,by rw[aB6,List.append_nil,HTH.out];exact hbdX,hblX,hkX⟩
     case round=>
      clear hbdX hblX hkX;obtain⟨w5,rfl⟩:∃x,x=wr:=⟨wr,rfl⟩;obtain⟨j,hj,rfl,hbd5,hbl5,hk5⟩:=hrel;have hw5:Below w.heap.size w w5:=(aA2 w _).trans (hbl5.mono (by omega))
      have z5:w0.heap.size<w5.heap.size:=(Array.getElem?_eq_some_iff.1 hk5).1;by_cases hjl:j<(tth types k).fields.length
      ·obtain⟨b2,off2,na,nc,rfl,hfr2,hcs2⟩:=hfs.at hB j hjl;obtain⟨c0,c1,c2,c3,c4,c5,c6,c7⟩:=hcs2 w5 hw5;have hsf:=aOW (tth types k) j hjl hszT;have hsf2:(fth (tth types k).fields j).name.size+(fth (tth types k).fields j).of.size+szNs (fth (tth types k).fields j).needs<=1048576:=hsf;obtain⟨-,-,-,-,-,-,-,-,hSt,hncc,-,-⟩:=hfr2.vals;have hln:=aEM (tth types k).fields j _ (Nat.le_of_lt hjl);have hwf:=fun w6 (hb6:Below (w5.heap.size+1) (w5.alloc (.cells #[.string (fth (tth types k).fields j).name,.string (fth (tth types k).fields j).of,.bool (fth (tth types k).fields j).list,.bool (fth (tth types k).fields j).must,.bool (fth (tth types k).fields j).far,.bool (fth (tth types k).fields j).hidden,.bool (fth (tth types k).fields j).shared,.slice na (fth (tth types k).fields j).needs.length nc] 80)) w6)=>aG7 (fth (tth types k).fields j).name (fth (tth types k).fields j).of (fth (tth types k).fields j).list (fth (tth types k).fields j).must (fth (tth types k).fields j).far (fth (tth types k).fields j).hidden (fth (tth types k).fields j).shared (fth (tth types k).fields j).needs na nc w6 (w.heap.size+1) (w.heap.size+1) _ (hbd5.kept ((aA2 w5 _).trans (hb6.mono (by omega)))) (by have:=hb6.size;simp at this;omega) (by have:=hb6.size;simp at this;omega) (by omega) (by omega) (by simp only[List.length_append] at hln ⊢;omega) ((hSt.under ((hw5.trans (((aA2 w5 _).trans (hb6.mono (by omega))).mono (by omega))).mono hB)).sub fun q hq=>by omega) hncc (by omega)
       clear hcs2;go_wp2_with (first
        |(
         go_at_call 139
         refine(aBN _ _ _ _ _ _ _ _ _ _ _).mono ?_;rintro e w6 ⟨rfl,hb6⟩;have hb6':=hb6.mono (show w5.heap.size+1<=_ by simp)
         have z6:=hb6.size;simp at z6)
        |(
         go_at_call 138
         refine(hwf w6 hb6').mono ?_;rintro e w7 ⟨rfl,hbd7,hbe7,hke7⟩))
       have hk6:w6.heap[w0.heap.size]?=some (.cells #[.string (tth types k).name,.string (tth types k).key,.slice (some ⟨b2,off2,none⟩) (tth types k).fields.length fc] 96 (0,0)):=(hb6.block _ (by simp;omega)).trans (((aA2 w5 _).block _ z5).trans hk5)
       go_roundw
       case rel=>exact⟨j+1,by omega,by go_num,by rw[aB6,<-List.append_assoc];exact hbd7,(hbl5.trans (((aA2 w5 _).trans (hb6.mono (by simp))).mono (by omega))).trans hbe7,hke7.block hk6 (by omega) (by decide)⟩
       case measure=>simp[intOf];omega
      ·go_wp2_with fail
       go_roundw
       case rel=>
        have ej:j=(tth types k).fields.length:=by omega
        refine⟨k+1,by omega,by go_num,?_,hbl5,by omega⟩
        rw[aAZ,<-List.append_assoc,<-List.append_assoc,<-ej];exact hbd5
       case measure=>simp[intOf];omega
  ·have ek:k=types.length:=by omega
   go_wp2_with (
    go_at_call 93
    refine(aNT (w.heap.size+1) (w.heap.size+1) _ w0 hbd (by omega)).mono ?_
    rintro e w9 ⟨rfl,hbe9⟩)
   exact⟨rfl,.string ⟨(aAK ⟨pname,types⟩++aAZ types types.length).toArray⟩,by simp[results,Tryz.results97,go_sem],by rw[HP0.out],hbw.trans (hbe9.mono (by omega))⟩
theorem aQY(f:F):(aGN f).data.toList.length<=szF f+33:=by
 have h1:=aES f f.needs.length;have h2:szF f=f.name.size+f.of.size+(f.needs.length+aEH f.needs f.needs.length):=rfl;rw[tl,aGN,ByteArray.size_append];have h3:(⟨#[10]⟩:ByteArray).size=1:=rfl;omega
theorem aJ2(fs:List F):∀n,(aB6 fs n).length<=aBE fs n+33*n
 |0=>by simp[aB6]
 |n+1=>by
  have h1:=aJ2 fs n;have h2:=aQY (fth fs n);rw[aB6,List.length_append,aC0];omega
theorem aSQ(t:T):(keyL t).length<=5+t.key.size:=by
 unfold keyL;split
 ·exact Nat.zero_le _
 ·rw[List.length_append,tl];exact Nat.le_refl _
theorem aLD(t:T):(aBF t).length<=11+t.name.size+t.key.size:=by
 have h1:=aSQ t;have h2:([116,121,112,101,32]:List UInt8).length=5:=rfl;have h3:([10]:List UInt8).length=1:=rfl;rw[aBF,List.length_append,List.length_append,List.length_append,tl];omega
theorem aKZ(ts:List T):∀n,(aAZ ts n).length<=33*aB1 ts n+11*n
 |0=>by simp[aAZ]
 |n+1=>by
  have h1:=aKZ ts n;have h2:=aLD (tth ts n);have h3:=aJ2 (tth ts n).fields (tth ts n).fields.length;have h4:szT (tth ts n)=(tth ts n).name.size+(tth ts n).key.size+((tth ts n).fields.length+aBE (tth ts n).fields (tth ts n).fields.length):=rfl;rw[aAZ,List.length_append,List.length_append,aB8];omega
theorem aGY(p:Pt):(aCU p).length<=33*szP p+6:=by
 have h1:=aKZ p.types p.types.length;have h2:szP p=p.name.size+(p.types.length+aB1 p.types p.types.length):=rfl;have h3:([112,97,114,116,32]:List UInt8).length=5:=rfl;have h4:([10]:List UInt8).length=1:=rfl;rw[aCU,aAK,List.length_append,List.length_append,List.length_append,tl];omega
theorem aMF(p:Pt)(w:World)(B:Nat)(v:Value)(hP:PRep w (·<B) p v)(hB:B<=w.heap.size)(hz:szP p<=1048576):
  Calls Tryz.prog 97 #[v] w fun e w'=>e=.returned (.string ⟨(aCU p).toArray⟩)∧Below w.heap.size w w':=
 aM1 p w B v hP hB hz (by have:=aGY p;omega)
end Go.Proofs.YtcebpkeiaiiphaaGreatDoor
namespace Go.Proofs.YtcebpkeiaiiphaaGreatDoor
open Go.RowKit Go.Maps
attribute [local go_sem] Oper.semAt_some
set_option maxRecDepth 20000 in
set_option maxHeartbeats 3200000 in
theorem aRR(t:T)(f:F)(fa na:Option Addr)(fc nc:Nat)(w:World)(P Q:Nat->Prop)(hT:TRep w P t (.agg #[.string t.name,.string t.key,.slice fa t.fields.length fc]))(hF:FRep w Q f (fval f na nc))(hP:∀b,P b->b<w.heap.size)(hQ:∀b,Q b->b<w.heap.size)(hl:t.fields.length<=1000000000)(hl2:f.needs.length<=1000000000)(k:Nat)(hx:aAB t f.name=(k:Int))(hk:k<t.fields.length):
  Calls Tryz.prog 71 #[.agg #[.string t.name,.string t.key,.slice fa t.fields.length fc],fval f na nc] w fun e w'=>∃fa' fc',e=.returned (.agg #[.string t.name,.string t.key,.slice fa' (putF t f).fields.length fc'])∧TRep w' (fun b=>P b∨Q b∨(w.heap.size<=b∧b<w'.heap.size)) (putF t f) (.agg #[.string t.name,.string t.key,.slice fa' (putF t f).fields.length fc'])∧Below w.heap.size w w':=by
 obtain⟨iF,zF,hiF,hF0,hF1,hF2,hFz⟩:=aDZ;obtain⟨i9,hi9,hy0,hy1,hy2⟩:=info_parts aMV;obtain⟨X,hXe⟩:∃X,X=((w.alloc (.cells #[.string t.name,.string t.key,.slice fa t.fields.length fc] 96)).alloc (.cells #[.string f.name,.string f.of,.bool f.list,.bool f.must,.bool f.far,.bool f.hidden,.bool f.shared,.slice na f.needs.length nc] 80)).alloc (.cells #[.string ⟨#[]⟩,.string ⟨#[]⟩,.slice none 0 0] 96):=⟨_,rfl⟩;have zX:X.heap.size=w.heap.size+3:=by rw[hXe];simp
 have bw:Below w.heap.size w X:=by rw[hXe];exact(((Below.refl _ _).alloc (Nat.le_refl _) _).alloc (by simp) _).alloc (by simp<;>omega) _
 have n0:X.heap[w.heap.size]?=some (.cells #[.string t.name,.string t.key,.slice fa t.fields.length fc] 96 (0,0)):=by
  rw[hXe,(aA2 _ _).block _ (by simp<;>omega),(aA2 _ _).block _ (by simp)]
  exact aA3 _ _ rfl
 have n1:X.heap[w.heap.size+1]?=some (.cells #[.string f.name,.string f.of,.bool f.list,.bool f.must,.bool f.far,.bool f.hidden,.bool f.shared,.slice na f.needs.length nc] 80 (0,0)):=by
  rw[hXe,(aA2 _ _).block _ (by simp)]
  exact aA3 _ _ (by simp)
 have n2:X.heap[w.heap.size+1+1]?=some (.cells #[.string ⟨#[]⟩,.string ⟨#[]⟩,.slice none 0 0] 96 (0,0)):=by
  rw[hXe];exact aA3 _ _ (by simp)
 have HX:Hid (∀W,Below X.heap.size X W->(W.cell? ⟨w.heap.size,0,none⟩=some (.string t.name)∧W.cell? ⟨w.heap.size,1,none⟩=some (.string t.key)∧W.cell? ⟨w.heap.size,2,none⟩=some (.slice fa t.fields.length fc))∧(W.cell? ⟨w.heap.size+1,0,none⟩=some (.string f.name)∧W.cell? ⟨w.heap.size+1,1,none⟩=some (.string f.of)∧W.cell? ⟨w.heap.size+1,2,none⟩=some (.bool f.list)∧W.cell? ⟨w.heap.size+1,3,none⟩=some (.bool f.must)∧W.cell? ⟨w.heap.size+1,4,none⟩=some (.bool f.far)∧W.cell? ⟨w.heap.size+1,5,none⟩=some (.bool f.hidden)∧W.cell? ⟨w.heap.size+1,6,none⟩=some (.bool f.shared)∧W.cell? ⟨w.heap.size+1,7,none⟩=some (.slice na f.needs.length nc))∧W.heap[w.heap.size]?=some (.cells #[.string t.name,.string t.key,.slice fa t.fields.length fc] 96 (0,0))∧W.heap[w.heap.size+1+1]?=some (.cells #[.string ⟨#[]⟩,.string ⟨#[]⟩,.slice none 0 0] 96 (0,0))∧Below w.heap.size w W):=aA0 fun W hW=>by
  have h0:=(hW.block _ (by omega)).trans n0
  have h1:=(hW.block _ (by omega)).trans n1
  exact⟨⟨(aA1 h0 0 (by simp)).1,(aA1 h0 1 (by simp)).1,(aA1 h0 2 (by simp)).1⟩,⟨(aA1 h1 0 (by simp)).1,(aA1 h1 1 (by simp)).1,(aA1 h1 2 (by simp)).1,(aA1 h1 3 (by simp)).1,(aA1 h1 4 (by simp)).1,(aA1 h1 5 (by simp)).1,(aA1 h1 6 (by simp)).1,(aA1 h1 7 (by simp)).1⟩,h0,(hW.block _ (by omega)).trans n2,bw.trans (hW.mono (by omega))⟩
 have hT':=hT;obtain⟨fa',fc',e,hFs,-⟩:=hT;simp only[Value.agg.injEq,Array.mk.injEq,List.cons.injEq,Value.slice.injEq,true_and,and_true] at e;obtain⟨rfl,rfl⟩:=e;obtain⟨h64,Cf,hAr,hCr⟩:=hFs;have HLF:Hid (∀W,Below X.heap.size X W->aFL W fa t.fields.length (aCL Cf t.fields.length)):=aA0 fun W hW=>aKI (hAr.mono fun b hb=>(HX.out W hW).2.2.2.2.block b (hP b hb));have HOF:Hid (∀u∈ aCL Cf t.fields.length,u.oneCell'=true):=aA0 (aMC hCr);have HNS:Hid (Strs w Q f.needs na):=aA0 (by
  obtain⟨na',nc',e,h1,-⟩:=hF;unfold fval at e;simp only[Value.agg.injEq,Array.mk.injEq,List.cons.injEq,Value.slice.injEq,true_and,and_true] at e;obtain⟨rfl,rfl⟩:=e;exact h1)
 have HLN:Hid (∀W,Below X.heap.size X W->aFL W na f.needs.length (f.needs.map Value.string)):=aA0 fun W hW=>aGO (HNS.out.mono fun b hb=>(HX.out W hW).2.2.2.2.block b (hQ b hb));have HFI:=aA0 (fun W (hW:Below X.heap.size X W)=>aD3 t W w.heap.size _ f.name ((hT'.mono fun b hb=>(HX.out W hW).2.2.2.2.block b (hP b hb)).sub fun b hb=>hP b hb) (HX.out W hW).2.2.2.2.size);have HFX:Hid (aAB t f.name=aA9 (fun i=>(fth t.fields i).name.toList==f.name.toList) t.fields.length):=aA0 rfl;rw[<-HFX.out,hx] at HFI;have HCR:=aA0 (And.intro hAr hCr);have HT':=aA0 hT';have HF':=aA0 hF;obtain⟨⟨x0,x1,x2⟩,⟨y0,-⟩,-⟩:=HX.out X (Below.refl _ _);rw[hXe] at x0 x1 x2 y0;unfold fval;go_enter Tryz.func71,Tryz.ntmps71
 clear hAr hCr hT' hF n0 n1 n2 HFX;go_wp2_with fail
 clear x0 x1 x2 y0;rw[<-hXe];clear hXe;refine(HFI.out X (Below.refl _ _)).mono ?_;rintro e w1 ⟨rfl,hb1⟩;have zw1:=hb1.size;have nA:=aA3 (w:=w1) (N:=w1.heap.size) #[] 80 rfl;have bA:=hb1.trans ((aA2 w1 (.cells #[] 80)).mono hb1.size);have c2:=(HX.out _ bA).1.2.2;go_wp2_with (
  at_builtin
  refine aD6 rfl _ _ 94 rfl X.heap.size 80 iF zF 8 64 Tryz.underlying94 hiF hF0 hF1 hF2 hFz (by decide) w1.heap.size 0 0 [] rfl ⟨rfl,Or.inr ⟨_,0,_,rfl,hb1.size,nA,Nat.le_refl _,by unfold maxLen;omega,rfl,rfl⟩⟩ fa t.fields.length fc (aCL Cf t.fields.length) rfl (aDE _ _) (HLF.out _ bA) HOF.out (by unfold maxLen;omega) (by omega) bA.size ?_
  intro gB capB wB oB hgrB hatB;refine Hid.out ?_)
 refine aA0 ?_;have bB:=bA.grown hgrB bA.size (fun k hk=>by cases hk;exact hb1.size)
 simp only[Nat.zero_add,List.nil_append] at oB ⊢;have qB:=(oB.lt gB rfl).1;clear c2 nA bA hgrB hatB;have hcf:t.fields.length<=capB:=by obtain⟨-,h| ⟨_,_,_,h,-,-,h2,-⟩⟩:=oB<;>simp_all
 cases hh:f.hidden
 ·have y5:=(HX.out _ bB).2.1.2.2.2.2.2.1;rw[hh] at y5;have bH:=bB;have oH:=oB;rcases Nat.eq_zero_or_pos f.needs.length with hn| hn
  ·have y7:=(HX.out _ bH).2.1.2.2.2.2.2.2.2;rw[hn] at y7;have bX:=bH;have oX:(wB).ownsRow X.heap.size 80 8 (.slice (some ⟨gB,0,none⟩) t.fields.length capB) t.fields.length (aHU none k (aED f.hidden k (aCL Cf t.fields.length))):=by rw[hh];exact oH
   clear oB oH;have c2:=(HX.out _ bX).1.2.2;have z2:=(aA1 (HX.out _ bX).2.2.1 2 (by simp)).2
   have hn0:((wB).setCell ⟨w.heap.size,2,none⟩ (.slice (some ⟨gB,0,none⟩) t.fields.length capB)).heap[w.heap.size]?=some (.cells #[.string t.name,.string t.key,(.slice (some ⟨gB,0,none⟩) t.fields.length capB)] 96 (0,0)):=aAC (HX.out _ bX).2.2.1 2 _;have hkS:∀b,b≠w.heap.size->((wB).setCell ⟨w.heap.size,2,none⟩ (.slice (some ⟨gB,0,none⟩) t.fields.length capB)).heap[b]?=(wB).heap[b]?:=fun b hb=>Below.heap_setCell _ _ _ _ hb;have hn2:=(hkS (w.heap.size+1+1) (by omega)).trans (HX.out _ bX).2.2.2.1
   have bS:Below w.heap.size w ((wB).setCell ⟨w.heap.size,2,none⟩ (.slice (some ⟨gB,0,none⟩) t.fields.length capB)):=(HX.out _ bX).2.2.2.2.setCell (Nat.le_refl _) _;have oS:=aB9 oX fun j hj=>by cases hj;exact hkS gB (by omega)
   have ho:=True.intro;have HO:=aA0 (And.intro oS ho);have HBS:=aA0 bS;obtain⟨a0,-⟩:=aA1 hn0 0 (by simp)
   obtain⟨a1,-⟩:=aA1 hn0 1 (by simp)
   obtain⟨a2,-⟩:=aA1 hn0 2 (by simp)
   obtain⟨r0,s0⟩:=aA1 hn2 0 (by simp)
   obtain⟨r1,s1⟩:=aA1 hn2 1 (by simp)
   obtain⟨r2,s2⟩:=aA1 hn2 2 (by simp)
   clear oX oS ho hkS bS bX;go_wp2_with fail
   obtain⟨d0,d1,d2⟩:=aDX hn2 rfl (.string t.name) (.string t.key) (.slice (some ⟨gB,0,none⟩) t.fields.length capB);refine bodyPost_ret (aEQ _ _ (w.heap.size+1+1) _ _ _ rfl d0 d1 d2) rfl ?_;exact aL2 HT'.out HF'.out hP hl hl2 hx hk HCR.out.2 (by omega) (by omega) (by omega) HO.out.1 (Or.inl ⟨hn,rfl⟩) hcf HBS.out _ _ _ _ rfl
  ·have y7:=(HX.out _ bH).2.1.2.2.2.2.2.2.2;have bC:=bH.trans ((aA2 (wB) (.cells #[] 9)).mono bH.size);have y7':=(HX.out _ bC).2.1.2.2.2.2.2.2.2;have nC:=aA3 (w:=wB) (N:=wB.heap.size) #[] 9 (by simp)
   have zC:=bB.size;have lB:=(oH.lt gB rfl).2;go_wp2_with (
    at_builtin
    refine aD6 rfl _ _ 33 rfl X.heap.size 9 i9 (.string ByteArray.empty) 1 16 Tryz.underlying33 hi9 hy0 hy1 hy2 rfl (by decide) wB.heap.size 0 0 [] rfl ⟨rfl,Or.inr ⟨_,0,_,rfl,zC,nC,Nat.le_refl _,by unfold maxLen;omega,rfl,rfl⟩⟩ na f.needs.length nc (f.needs.map Value.string) rfl (by simp) (HLN.out _ bC) (aEW _) (by unfold maxLen;omega) (by omega) bC.size ?_
    intro gD capD wD2 oD hgrD hatD;refine Hid.out ?_)
   refine aA0 ?_;have hkD:∀b,b<(wB).heap.size->wD2.heap[b]?=(wB).heap[b]?:=fun b hb=>(hgrD.block b (by simp at hb ⊢;omega) (fun e=>by simp at hb e;omega)).trans ((aA2 (wB) (.cells #[] 9)).block b hb)
   have bD:=bC.grown hgrD bC.size (fun k hk=>by cases hk;exact zC)
   have hDB:gD≠gB:=by simp at lB hatD;omega
   simp only[Nat.zero_add,List.nil_append] at oD ⊢;have oE:wD2.ownsRow X.heap.size 80 8 (.slice (some ⟨gB,0,none⟩) t.fields.length capB) t.fields.length (aHU none k (aED f.hidden k (aCL Cf t.fields.length))):=by rw[hh];exact aB9 oH fun j hj=>by cases hj;exact hkD gB lB
   have z7:=oE.frozenAt (k*8+7);have x7:=(oE.cellAt (k*8+7) (by omega)).trans (aLB f.hidden none k t.fields.length Cf k 7 hk (by omega))
   have oX:(wD2.setCell ⟨gB,k*8+7,none⟩ (.slice (some ⟨gD,0,none⟩) f.needs.length capD)).ownsRow X.heap.size 80 8 (.slice (some ⟨gB,0,none⟩) t.fields.length capB) t.fields.length (aHU (some (.slice (some ⟨gD,0,none⟩) f.needs.length capD)) k (aED f.hidden k (aCL Cf t.fields.length))):=(oE.stored (k*8+7) (.slice (some ⟨gD,0,none⟩) f.needs.length capD)).1;have bX:=bD.setCell (show X.heap.size<=(⟨gB,k*8+7,none⟩:Addr).block from qB) (.slice (some ⟨gD,0,none⟩) f.needs.length capD)
   have oD2:=aB9 (w':=wD2.setCell ⟨gB,k*8+7,none⟩ (.slice (some ⟨gD,0,none⟩) f.needs.length capD)) oD fun j hj=>by cases hj;exact Below.heap_setCell _ _ _ _ hDB
   have hcd:f.needs.length<=capD:=by obtain⟨-,h| ⟨_,_,_,h,-,-,h2,-⟩⟩:=oD<;>simp_all
   have qD:=(oD.lt gD rfl).1;clear nC y7 y7' hgrD hatD hkD oB oH oE bC bD bH oD;have c2:=(HX.out _ bX).1.2.2;have z2:=(aA1 (HX.out _ bX).2.2.1 2 (by simp)).2
   have hn0:((wD2.setCell ⟨gB,k*8+7,none⟩ (.slice (some ⟨gD,0,none⟩) f.needs.length capD)).setCell ⟨w.heap.size,2,none⟩ (.slice (some ⟨gB,0,none⟩) t.fields.length capB)).heap[w.heap.size]?=some (.cells #[.string t.name,.string t.key,(.slice (some ⟨gB,0,none⟩) t.fields.length capB)] 96 (0,0)):=aAC (HX.out _ bX).2.2.1 2 _;have hkS:∀b,b≠w.heap.size->((wD2.setCell ⟨gB,k*8+7,none⟩ (.slice (some ⟨gD,0,none⟩) f.needs.length capD)).setCell ⟨w.heap.size,2,none⟩ (.slice (some ⟨gB,0,none⟩) t.fields.length capB)).heap[b]?=(wD2.setCell ⟨gB,k*8+7,none⟩ (.slice (some ⟨gD,0,none⟩) f.needs.length capD)).heap[b]?:=fun b hb=>Below.heap_setCell _ _ _ _ hb;have hn2:=(hkS (w.heap.size+1+1) (by omega)).trans (HX.out _ bX).2.2.2.1
   have bS:Below w.heap.size w ((wD2.setCell ⟨gB,k*8+7,none⟩ (.slice (some ⟨gD,0,none⟩) f.needs.length capD)).setCell ⟨w.heap.size,2,none⟩ (.slice (some ⟨gB,0,none⟩) t.fields.length capB)):=(HX.out _ bX).2.2.2.2.setCell (Nat.le_refl _) _;have oS:=aB9 oX fun j hj=>by cases hj;exact hkS gB (by omega)
   have ho:=And.intro hcd (aB9 oD2 fun j hj=>by cases hj;exact hkS gD (by omega))
   clear oD2;have HO:=aA0 (And.intro oS ho);have HBS:=aA0 bS;obtain⟨a0,-⟩:=aA1 hn0 0 (by simp)
   obtain⟨a1,-⟩:=aA1 hn0 1 (by simp)
   obtain⟨a2,-⟩:=aA1 hn0 2 (by simp)
   obtain⟨r0,s0⟩:=aA1 hn2 0 (by simp)
   obtain⟨r1,s1⟩:=aA1 hn2 1 (by simp)
   obtain⟨r2,s2⟩:=aA1 hn2 2 (by simp)
   clear oX oS ho hkS bS bX;go_wp2_with fail
   obtain⟨d0,d1,d2⟩:=aDX hn2 rfl (.string t.name) (.string t.key) (.slice (some ⟨gB,0,none⟩) t.fields.length capB);refine bodyPost_ret (aEQ _ _ (w.heap.size+1+1) _ _ _ rfl d0 d1 d2) rfl ?_;exact aL2 HT'.out HF'.out hP hl hl2 hx hk HCR.out.2 (by omega) (by omega) (by omega) HO.out.1 (Or.inr ⟨by omega,gD,capD,rfl,HO.out.2.1,HO.out.2.2⟩) hcf HBS.out _ _ _ _ rfl
 ·have y5:=(HX.out _ bB).2.1.2.2.2.2.2.1;rw[hh] at y5;have z5:=oB.frozenAt (k*8+5);have x5:=oB.cellAt (k*8+5) (by omega)
  rw[aLK _ _ _ _ hk (by omega)] at x5
  have bH:=bB.setCell (show X.heap.size<=(⟨gB,k*8+5,none⟩:Addr).block from qB) (.bool true)
  have oH:=(oB.stored (k*8+5) (.bool true)).1;rcases Nat.eq_zero_or_pos f.needs.length with hn| hn
  ·have y7:=(HX.out _ bH).2.1.2.2.2.2.2.2.2;rw[hn] at y7;have bX:=bH;have oX:(wB.setCell ⟨gB,k*8+5,none⟩ (.bool true)).ownsRow X.heap.size 80 8 (.slice (some ⟨gB,0,none⟩) t.fields.length capB) t.fields.length (aHU none k (aED f.hidden k (aCL Cf t.fields.length))):=by rw[hh];exact oH
   clear oB oH;have c2:=(HX.out _ bX).1.2.2;have z2:=(aA1 (HX.out _ bX).2.2.1 2 (by simp)).2
   have hn0:((wB.setCell ⟨gB,k*8+5,none⟩ (.bool true)).setCell ⟨w.heap.size,2,none⟩ (.slice (some ⟨gB,0,none⟩) t.fields.length capB)).heap[w.heap.size]?=some (.cells #[.string t.name,.string t.key,(.slice (some ⟨gB,0,none⟩) t.fields.length capB)] 96 (0,0)):=aAC (HX.out _ bX).2.2.1 2 _;have hkS:∀b,b≠w.heap.size->((wB.setCell ⟨gB,k*8+5,none⟩ (.bool true)).setCell ⟨w.heap.size,2,none⟩ (.slice (some ⟨gB,0,none⟩) t.fields.length capB)).heap[b]?=(wB.setCell ⟨gB,k*8+5,none⟩ (.bool true)).heap[b]?:=fun b hb=>Below.heap_setCell _ _ _ _ hb;have hn2:=(hkS (w.heap.size+1+1) (by omega)).trans (HX.out _ bX).2.2.2.1
   have bS:Below w.heap.size w ((wB.setCell ⟨gB,k*8+5,none⟩ (.bool true)).setCell ⟨w.heap.size,2,none⟩ (.slice (some ⟨gB,0,none⟩) t.fields.length capB)):=(HX.out _ bX).2.2.2.2.setCell (Nat.le_refl _) _;have oS:=aB9 oX fun j hj=>by cases hj;exact hkS gB (by omega)
   have ho:=True.intro;have HO:=aA0 (And.intro oS ho);have HBS:=aA0 bS;obtain⟨a0,-⟩:=aA1 hn0 0 (by simp)
   obtain⟨a1,-⟩:=aA1 hn0 1 (by simp)
   obtain⟨a2,-⟩:=aA1 hn0 2 (by simp)
   obtain⟨r0,s0⟩:=aA1 hn2 0 (by simp)
   obtain⟨r1,s1⟩:=aA1 hn2 1 (by simp)
   obtain⟨r2,s2⟩:=aA1 hn2 2 (by simp)
   clear oX oS ho hkS bS bX;go_wp2_with fail
   obtain⟨d0,d1,d2⟩:=aDX hn2 rfl (.string t.name) (.string t.key) (.slice (some ⟨gB,0,none⟩) t.fields.length capB);refine bodyPost_ret (aEQ _ _ (w.heap.size+1+1) _ _ _ rfl d0 d1 d2) rfl ?_;exact aL2 HT'.out HF'.out hP hl hl2 hx hk HCR.out.2 (by omega) (by omega) (by omega) HO.out.1 (Or.inl ⟨hn,rfl⟩) hcf HBS.out _ _ _ _ rfl
  ·have y7:=(HX.out _ bH).2.1.2.2.2.2.2.2.2;have bC:=bH.trans ((aA2 (wB.setCell ⟨gB,k*8+5,none⟩ (.bool true)) (.cells #[] 9)).mono bH.size);have y7':=(HX.out _ bC).2.1.2.2.2.2.2.2.2;have nC:=aA3 (w:=wB.setCell ⟨gB,k*8+5,none⟩ (.bool true)) (N:=wB.heap.size) #[] 9 (by simp)
   have zC:=bB.size;have lB:=(oH.lt gB rfl).2;go_wp2_with (
    at_builtin
    refine aD6 rfl _ _ 33 rfl X.heap.size 9 i9 (.string ByteArray.empty) 1 16 Tryz.underlying33 hi9 hy0 hy1 hy2 rfl (by decide) wB.heap.size 0 0 [] rfl ⟨rfl,Or.inr ⟨_,0,_,rfl,zC,nC,Nat.le_refl _,by unfold maxLen;omega,rfl,rfl⟩⟩ na f.needs.length nc (f.needs.map Value.string) rfl (by simp) (HLN.out _ bC) (aEW _) (by unfold maxLen;omega) (by omega) bC.size ?_
    intro gD capD wD2 oD hgrD hatD;refine Hid.out ?_)
   refine aA0 ?_;have hkD:∀b,b<(wB.setCell ⟨gB,k*8+5,none⟩ (.bool true)).heap.size->wD2.heap[b]?=(wB.setCell ⟨gB,k*8+5,none⟩ (.bool true)).heap[b]?:=fun b hb=>(hgrD.block b (by simp at hb ⊢;omega) (fun e=>by simp at hb e;omega)).trans ((aA2 (wB.setCell ⟨gB,k*8+5,none⟩ (.bool true)) (.cells #[] 9)).block b hb)
   have bD:=bC.grown hgrD bC.size (fun k hk=>by cases hk;exact zC)
   have hDB:gD≠gB:=by simp at lB hatD;omega
   simp only[Nat.zero_add,List.nil_append] at oD ⊢;have oE:wD2.ownsRow X.heap.size 80 8 (.slice (some ⟨gB,0,none⟩) t.fields.length capB) t.fields.length (aHU none k (aED f.hidden k (aCL Cf t.fields.length))):=by rw[hh];exact aB9 oH fun j hj=>by cases hj;exact hkD gB lB
   have z7:=oE.frozenAt (k*8+7);have x7:=(oE.cellAt (k*8+7) (by omega)).trans (aLB f.hidden none k t.fields.length Cf k 7 hk (by omega))
   have oX:(wD2.setCell ⟨gB,k*8+7,none⟩ (.slice (some ⟨gD,0,none⟩) f.needs.length capD)).ownsRow X.heap.size 80 8 (.slice (some ⟨gB,0,none⟩) t.fields.length capB) t.fields.length (aHU (some (.slice (some ⟨gD,0,none⟩) f.needs.length capD)) k (aED f.hidden k (aCL Cf t.fields.length))):=(oE.stored (k*8+7) (.slice (some ⟨gD,0,none⟩) f.needs.length capD)).1;have bX:=bD.setCell (show X.heap.size<=(⟨gB,k*8+7,none⟩:Addr).block from qB) (.slice (some ⟨gD,0,none⟩) f.needs.length capD)
   have oD2:=aB9 (w':=wD2.setCell ⟨gB,k*8+7,none⟩ (.slice (some ⟨gD,0,none⟩) f.needs.length capD)) oD fun j hj=>by cases hj;exact Below.heap_setCell _ _ _ _ hDB
   have hcd:f.needs.length<=capD:=by obtain⟨-,h| ⟨_,_,_,h,-,-,h2,-⟩⟩:=oD<;>simp_all
   have qD:=(oD.lt gD rfl).1;clear nC y7 y7' hgrD hatD hkD oB oH oE bC bD bH oD;have c2:=(HX.out _ bX).1.2.2;have z2:=(aA1 (HX.out _ bX).2.2.1 2 (by simp)).2
   have hn0:((wD2.setCell ⟨gB,k*8+7,none⟩ (.slice (some ⟨gD,0,none⟩) f.needs.length capD)).setCell ⟨w.heap.size,2,none⟩ (.slice (some ⟨gB,0,none⟩) t.fields.length capB)).heap[w.heap.size]?=some (.cells #[.string t.name,.string t.key,(.slice (some ⟨gB,0,none⟩) t.fields.length capB)] 96 (0,0)):=aAC (HX.out _ bX).2.2.1 2 _;have hkS:∀b,b≠w.heap.size->((wD2.setCell ⟨gB,k*8+7,none⟩ (.slice (some ⟨gD,0,none⟩) f.needs.length capD)).setCell ⟨w.heap.size,2,none⟩ (.slice (some ⟨gB,0,none⟩) t.fields.length capB)).heap[b]?=(wD2.setCell ⟨gB,k*8+7,none⟩ (.slice (some ⟨gD,0,none⟩) f.needs.length capD)).heap[b]?:=fun b hb=>Below.heap_setCell _ _ _ _ hb;have hn2:=(hkS (w.heap.size+1+1) (by omega)).trans (HX.out _ bX).2.2.2.1
   have bS:Below w.heap.size w ((wD2.setCell ⟨gB,k*8+7,none⟩ (.slice (some ⟨gD,0,none⟩) f.needs.length capD)).setCell ⟨w.heap.size,2,none⟩ (.slice (some ⟨gB,0,none⟩) t.fields.length capB)):=(HX.out _ bX).2.2.2.2.setCell (Nat.le_refl _) _;have oS:=aB9 oX fun j hj=>by cases hj;exact hkS gB (by omega)
   have ho:=And.intro hcd (aB9 oD2 fun j hj=>by cases hj;exact hkS gD (by omega))
   clear oD2;have HO:=aA0 (And.intro oS ho);have HBS:=aA0 bS;obtain⟨a0,-⟩:=aA1 hn0 0 (by simp)
   obtain⟨a1,-⟩:=aA1 hn0 1 (by simp)
   obtain⟨a2,-⟩:=aA1 hn0 2 (by simp)
   obtain⟨r0,s0⟩:=aA1 hn2 0 (by simp)
   obtain⟨r1,s1⟩:=aA1 hn2 1 (by simp)
   obtain⟨r2,s2⟩:=aA1 hn2 2 (by simp)
   clear oX oS ho hkS bS bX;go_wp2_with fail
   obtain⟨d0,d1,d2⟩:=aDX hn2 rfl (.string t.name) (.string t.key) (.slice (some ⟨gB,0,none⟩) t.fields.length capB);refine bodyPost_ret (aEQ _ _ (w.heap.size+1+1) _ _ _ rfl d0 d1 d2) rfl ?_;exact aL2 HT'.out HF'.out hP hl hl2 hx hk HCR.out.2 (by omega) (by omega) (by omega) HO.out.1 (Or.inr ⟨by omega,gD,capD,rfl,HO.out.2.1,HO.out.2.2⟩) hcf HBS.out _ _ _ _ rfl
end Go.Proofs.YtcebpkeiaiiphaaGreatDoor
namespace Go.Proofs.YtcebpkeiaiiphaaGreatDoor
open Go.RowKit
end Go.Proofs.YtcebpkeiaiiphaaGreatDoor
