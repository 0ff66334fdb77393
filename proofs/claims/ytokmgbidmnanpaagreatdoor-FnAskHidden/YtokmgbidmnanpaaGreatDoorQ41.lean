import Derived.Test.YtokmgbidmnanpaaGreatDoorQ40
import Derived.Test.YtokmgbidmnanpaaGreatDoorQ38
import Derived.Test.YtokmgbidmnanpaaGreatDoorQ39
set_option linter.unusedSimpArgs false
set_option linter.unusedVariables false
namespace Go.Proofs.YtokmgbidmnanpaaGreatDoor
open Go.RowKit
def okP(p:Pt):Bool:=!(decide (5<p.types.length))&&aAO p.name&&aB4 p&&!(decide (badT p<p.types.length))&&!(decide (1500<(aCS p).length))
theorem aFD(p:Pt):∀n k,aFT p k n<k+n→aAG p (aFT p k n)≠0
 |0,k,h=>by simp[aFT] at h
 |n+1,k,h=>by
  rw[aFT] at h ⊢
  by_cases e:aAG p k=0
  ·rw[if_pos e] at h ⊢;exact aFD p n (k+1) (by omega)
  ·rw[if_neg e];exact e
theorem aQ9(p:Pt)(h:okP p=true):aG9 p=.nilIface:=by
 simp only[okP,Bool.and_eq_true,Bool.not_eq_true',decide_eq_false_iff_not] at h
 obtain⟨⟨⟨⟨a,b⟩,c⟩,d⟩,e⟩:=h
 rw[aG9,if_neg a,if_neg (by rw[b];simp),if_neg (by rw[c];simp),if_neg d,if_neg e]
theorem aNJ(p:Pt)(h:okP p=false):(∃x,aG9 p=.iface 149 (.int .i64 x))∨∃i x,aG9 p=.iface 151 (.agg #[.int .i64 i,.iface 149 (.int .i64 x)]):=by
 unfold aG9
 by_cases a:5<p.types.length
 ·rw[if_pos a];exact .inr ⟨_,_,rfl⟩
 rw[if_neg a]
 by_cases b:aAO p.name=false
 ·rw[if_pos b];exact .inl ⟨_,rfl⟩
 rw[if_neg b]
 by_cases c:aB4 p=false
 ·rw[if_pos c];exact .inl ⟨_,rfl⟩
 rw[if_neg c]
 by_cases d:badT p<p.types.length
 ·rw[if_pos d]
  have hb:aAG p (badT p)≠0:=aFD p _ 0 (by rw[Nat.zero_add];exact d)
  exact .inr ⟨((badT p:Nat)+1:Int),aAG p (badT p),by rw[aBS,if_neg hb]⟩
 rw[if_neg d]
 by_cases e:1500<(aCS p).length
 ·rw[if_pos e];exact .inl ⟨_,rfl⟩
 exfalso
 simp[okP,a,b,c,d,e] at h
end Go.Proofs.YtokmgbidmnanpaaGreatDoor
namespace Go.Proofs.YtokmgbidmnanpaaGreatDoor
open Go.RowKit
theorem aH6(f g:Nat→Nat)(k:Nat)(h:∀i,i≠k→f i=g i):∀n,k<n→((List.range n).map f).sum+g k=((List.range n).map g).sum+f k
 |0,hk=>absurd hk (Nat.not_lt_zero _)
 |n+1,hk=>by
  simp only[List.range_succ,List.map_append,List.map_cons,List.map_nil,List.sum_append,List.sum_cons,List.sum_nil,Nat.add_zero]
  by_cases e:k=n
  ·subst e
   have:(List.range k).map f=(List.range k).map g:=List.map_congr_left fun i hi=>h i (by have:=List.mem_range.1 hi;omega)
   rw[this]
   omega
  ·have ih:=aH6 f g k h n (by omega)
   have:=h n (fun x=>e x.symm)
   omega
theorem aPC(f g:Nat→Nat)(n:Nat)(h:∀i,i<n→f i=g i):((List.range n).map f).sum=((List.range n).map g).sum:=by
 rw[List.map_congr_left fun i hi=>h i (List.mem_range.1 hi)]
theorem aUB(f:F):f.of.size≤(ofB f).size:=by
 unfold ofB;split<;>split<;>(first| simp only[ByteArray.size_append,aC9,List.size_toArray,List.length_cons,List.length_nil]| skip)<;>omega
theorem aT7(f:F):f.name.size+f.of.size≤(aH5 f).size:=by
 have:=aUB f
 unfold aH5 shaB hidB farB aIU
 split<;>split<;>split<;>split<;>simp only[ByteArray.size_append,aC9,List.size_toArray,List.length_cons,List.length_nil]<;>omega
theorem aMB(f:F):∀k,f.name.size+f.of.size+k+aDD f.needs k≤(aDF f k).size
 |0=>by have:=aT7 f;simp only[aDF,aDD];simp;omega
 |k+1=>by
  have:=aMB f k
  rw[aDF,aFS]
  simp only[ByteArray.size_append,aC9,List.size_toArray,List.length_cons,List.length_nil]
  omega
theorem aSF(f:F):szF f+1≤(aGK f).data.toList.length:=by
 have h1:=aMB f f.needs.length
 have h2:szF f=f.name.size+f.of.size+(f.needs.length+aDD f.needs f.needs.length):=rfl
 rw[tl,aGK,ByteArray.size_append]
 have h3:(⟨#[10]⟩:ByteArray).size=1:=rfl
 omega
theorem aKM(fs:List F):∀n,aBY fs n+n≤(aB0 fs n).length
 |0=>by simp[aB0,aBY]
 |n+1=>by
  have h1:=aKM fs n
  have h2:=aSF (fth fs n)
  rw[aB0,List.length_append,aD0]
  omega
theorem aN1(ts:List T)(hk:∀i,(tth ts i).key.size≤(keyL (tth ts i)).length):∀n,aBT ts n+n≤(aAX ts n).length
 |0=>by simp[aAX,aBT]
 |n+1=>by
  have h1:=aN1 ts hk n
  have h3:=aKM (tth ts n).fields (tth ts n).fields.length
  have h4:szT (tth ts n)=(tth ts n).name.size+(tth ts n).key.size+((tth ts n).fields.length+aBY (tth ts n).fields (tth ts n).fields.length):=rfl
  have h5:=hk n
  have h2:([116,121,112,101,32]:List UInt8).length=5:=rfl
  have h6:([10]:List UInt8).length=1:=rfl
  rw[aAX,List.length_append,List.length_append,aCK,aB6,List.length_append,List.length_append,List.length_append,tl]
  omega
theorem aU5(t:T):t.key.size≤(keyL t).length:=by
 unfold keyL
 split
 ·rename_i h
  have h0:t.key.toList=[]:=List.isEmpty_iff.1 h
  have h1:t.key.data.toList=[]:=by rw[←ByteArray.toList_eq];exact h0
  rw[←tl,h1]
  exact Nat.le_refl _
 ·rw[List.length_append,tl];omega
theorem aSX(p:Pt):szP p≤(aCS p).length:=by
 have h1:=aN1 p.types (fun i=>aU5 _) p.types.length
 have h2:szP p=p.name.size+(p.types.length+aBT p.types p.types.length):=rfl
 rw[aCS,aAK,List.length_append,List.length_append,List.length_append,tl]
 omega
theorem aS9(p:Pt)(h:okP p=true):szP p≤1500∧p.types.length≤5:=by
 have h1:=aSX p
 unfold okP at h
 simp only[Bool.and_eq_true,Bool.not_eq_true',decide_eq_false_iff_not] at h
 omega
end Go.Proofs.YtokmgbidmnanpaaGreatDoor
namespace Go.Proofs.YtokmgbidmnanpaaGreatDoor
open Go.RowKit
theorem aTD(fs:List F)(k:Nat)(g:F)(hk:k<fs.length):szFs (fs.set k g)+szF (fth fs k)=szFs fs+szF g:=by
 unfold szFs aBY
 rw[List.length_set]
 have:=aH6 (fun i=>szF (fth (fs.set k g) i)) (fun i=>szF (fth fs i)) k (fun i hi=>by show szF _=szF _;rw[aKQ _ _ _ _ hi]) fs.length hk
 simp only[aKU _ _ _ hk] at this
 omega
theorem aRP(fs:List F)(g:F):szFs (fs++[g])=szFs fs+1+szF g:=by
 unfold szFs
 rw[List.length_append,List.length_singleton,aD0,aJE]
 have:aBY (fs++[g]) fs.length=aBY fs fs.length:=aPC _ _ _ fun i hi=>by rw[aJJ _ _ _ hi]
 omega
theorem aT5(ts:List T)(k:Nat)(g:T)(hk:k<ts.length):szTs (ts.set k g)+szT (tth ts k)=szTs ts+szT g:=by
 unfold szTs aBT
 rw[List.length_set]
 have:=aH6 (fun i=>szT (tth (ts.set k g) i)) (fun i=>szT (tth ts i)) k (fun i hi=>by show szT _=szT _;rw[aH7 _ _ _ _ hi]) ts.length hk
 simp only[aHL _ _ _ hk] at this
 omega
theorem aQV(ts:List T)(g:T):szTs (ts++[g])=szTs ts+1+szT g:=by
 unfold szTs
 rw[List.length_append,List.length_singleton,aCK,aEW]
 have:aBT (ts++[g]) ts.length=aBT ts ts.length:=aPC _ _ _ fun i hi=>by rw[aGD _ _ _ hi]
 omega
theorem aU4(t:T)(f:F):szT (putF t f)≤szT t+1+szF f:=by
 unfold putF
 split
 ·rename_i h
  have hx:aAC t f.name=aAI (fun i=>(fth t.fields i).name.toList==f.name.toList) t.fields.length:=rfl
  rcases aAB (fun i=>(fth t.fields i).name.toList==f.name.toList) t.fields.length with⟨h2,-⟩| ⟨g,h2,hg,-,-⟩
  ·rw[hx,h2] at h;omega
  ·rw[hx,h2]
   show t.name.size+t.key.size+szFs (t.fields.set (g:Int).toNat _)≤_
   rw[Int.toNat_natCast]
   have h3:=aTD t.fields g { (fth t.fields g) with hidden:=(fth t.fields g).hidden||f.hidden,needs:=if f.needs.length=0 then(fth t.fields g).needs else f.needs } hg
   have h4:szF { (fth t.fields g) with hidden:=(fth t.fields g).hidden||f.hidden,needs:=if f.needs.length=0 then(fth t.fields g).needs else f.needs }≤szF (fth t.fields g)+szF f:=by
    unfold szF
    simp only
    split<;>omega
   unfold szT
   omega
 ·show t.name.size+t.key.size+szFs (t.fields++[_])≤_
  rw[aRP]
  unfold szT szF
  simp only
  omega
theorem aSI(o t:T)(n:Nat):szT (aGL o t n)≤szT o+n+aBY t.fields n:=by
 induction n with
 |zero=>simp[aGL]
 |succ n ih=>
  rw[aGL,aD0]
  have:=aU4 (aGL o t n) (fth t.fields n)
  omega
theorem aSS(ps:List Pt)(out:List T)(t:T)(K:Nat)(hK:(keyM ps t.name).size≤K):szTs (aQP ps out t)≤szTs out+szT t+K+1:=by
 rw[←aJT]
 unfold midT
 have h1:=aT5 (aE4 ps out t) (atT out t) (aGL (tth (aE4 ps out t) (atT out t)) t t.fields.length) (aS8 ps out t)
 have h2:=aSI (tth (aE4 ps out t) (atT out t)) t t.fields.length
 have h3:szTs (aE4 ps out t)≤szTs out+t.name.size+K+1:=by
  unfold aE4
  split
  ·omega
  ·rw[aQV]
   have:szT ⟨t.name,keyM ps t.name,[]⟩=t.name.size+(keyM ps t.name).size:=by simp[szT,szFs,aBY]
   omega
 have h4:szT t=t.name.size+t.key.size+(t.fields.length+aBY t.fields t.fields.length):=rfl
 omega
theorem aQC(ps:List Pt)(p:Pt)(out:List T)(K:Nat)(hK:∀nm,(keyM ps nm).size≤K)(k:Nat):szTs (aCJ ps p out k)≤szTs out+aBT p.types k+k*(K+1):=by
 induction k with
 |zero=>simp[aCJ]
 |succ k ih=>
  rw[aCJ,aCK,Nat.succ_mul]
  have:=aSS ps (aCJ ps p out k) (tth p.types k) K (hK _)
  omega
theorem aPM(ps:List Pt)(K M L:Nat)(hK:∀nm,(keyM ps nm).size≤K)(i:Nat)(hM:∀j,j<i→szP (pth ps j)≤M)(hL:∀j,j<i→(pth ps j).types.length≤L):szTs (aC4 ps i)≤i*(M+L*(K+1)):=by
 induction i with
 |zero=>simp[aC4,szTs,aBT]
 |succ i ih=>
  rw[aC4,Nat.succ_mul]
  have h1:=ih (fun j hj=>hM j (by omega)) (fun j hj=>hL j (by omega))
  have h2:=aQC ps (pth ps i) (aC4 ps i) K hK (pth ps i).types.length
  have h3:=hM i (by omega)
  have h4:szP (pth ps i)=(pth ps i).name.size+((pth ps i).types.length+aBT (pth ps i).types (pth ps i).types.length):=rfl
  have h5:=Nat.mul_le_mul_right (K+1) (hL i (by omega))
  omega
theorem aTU(ps:List Pt)(K M L:Nat)(hK:∀nm,(keyM ps nm).size≤K)(hM:∀j,j<ps.length→szP (pth ps j)≤M)(hL:∀j,j<ps.length→(pth ps j).types.length≤L):szP (allM ps)≤1+ps.length*(M+L*(K+1)):=by
 have h1:=aPM ps K M L hK ps.length hM hL
 show(1:Nat)+szTs (aC4 ps ps.length)≤_
 omega
theorem aEL(ts:List T)(k:Nat):∀n,k<n→szT (tth ts k)≤aBT ts n
 |0,h=>absurd h (Nat.not_lt_zero _)
 |n+1,h=>by
  rw[aCK]
  by_cases e:k=n
  ·subst e;omega
  ·have:=aEL ts k n (by omega)
   omega
theorem aPQ(p:Pt)(nm:ByteArray):szT (aAY p nm)≤szP p:=by
 have hz:∀k,szT (tth p.types k)≤szP p:=fun k=>by
  have h4:szP p=p.name.size+(p.types.length+aBT p.types p.types.length):=rfl
  by_cases h:k<p.types.length
  ·have:=aEL p.types k p.types.length h
   omega
  ·have:tth p.types k=T.zero:=by simp[tth,List.getD_eq_getElem?_getD,List.getElem?_eq_none (Nat.le_of_not_lt h)]
   rw[this]
   exact Nat.zero_le _
 unfold aAY
 split
 ·exact hz _
 ·exact Nat.zero_le _
theorem aTY(ps:List Pt)(M:Nat)(hM:∀j,j<ps.length→szP (pth ps j)≤M)(nm:ByteArray):(keyM ps nm).size≤M:=by
 unfold keyM
 split
 ·rename_i hx
  have hk:aQE ps nm=aAI (fun i=>!(aAY (pth ps i) nm).key.toList.isEmpty) ps.length:=rfl
  rcases aAB (fun i=>!(aAY (pth ps i) nm).key.toList.isEmpty) ps.length with⟨h2,-⟩| ⟨g,h2,hg,-,-⟩
  ·rw[hk,h2] at hx;omega
  ·rw[hk,h2,Int.toNat_natCast]
   have h1:=aPQ (pth ps g) nm
   have h3:=hM g hg
   have h4:szT (aAY (pth ps g) nm)=(aAY (pth ps g) nm).name.size+(aAY (pth ps g) nm).key.size+szFs (aAY (pth ps g) nm).fields:=rfl
   omega
 ·exact Nat.zero_le _
end Go.Proofs.YtokmgbidmnanpaaGreatDoor
namespace Go.Proofs.YtokmgbidmnanpaaGreatDoor
open Go.RowKit
theorem aTW(ps:List Pt)(h4:ps.length≤4)(h:∀i,i<ps.length→okP (pth ps i)=true):szP (allM ps)≤1048576:=by
 have hM:∀j,j<ps.length→szP (pth ps j)≤1500:=fun j hj=>(aS9 _ (h j hj)).1
 have h1:=aTU ps 1500 1500 5 (aTY ps 1500 hM) hM (fun j hj=>(aS9 _ (h j hj)).2)
 have h2:ps.length*(1500+5*(1500+1))≤4*(1500+5*(1500+1)):=Nat.mul_le_mul_right _ h4
 omega
theorem aTN(p:Pt)(k:Nat):fcT p k≤aBT p.types k+k:=by
 induction k with
 |zero=>exact Nat.zero_le _
 |succ k ih=>
  rw[fcT,aCK]
  have h4:szT (tth p.types k)=(tth p.types k).name.size+(tth p.types k).key.size+((tth p.types k).fields.length+aBY (tth p.types k).fields (tth p.types k).fields.length):=rfl
  omega
theorem aUN(ps:List Pt)(M i:Nat)(hM:∀j,j<i→szP (pth ps j)≤M):fcP ps i≤i*M:=by
 induction i with
 |zero=>exact Nat.zero_le _
 |succ i ih=>
  rw[fcP,Nat.succ_mul]
  have h1:=ih fun j hj=>hM j (by omega)
  have h2:=aTN (pth ps i) (pth ps i).types.length
  have h3:=hM i (by omega)
  have h4:szP (pth ps i)=(pth ps i).name.size+((pth ps i).types.length+aBT (pth ps i).types (pth ps i).types.length):=rfl
  omega
theorem aUV(ps:List Pt)(h4:ps.length≤4)(hz:∀i,i<ps.length→szP (pth ps i)≤1048576):fcP ps ps.length≤100000000:=by
 have h1:=aUN ps 1048576 ps.length hz
 have h2:ps.length*1048576≤4*1048576:=Nat.mul_le_mul_right _ h4
 omega
end Go.Proofs.YtokmgbidmnanpaaGreatDoor
namespace Go.Proofs.YtokmgbidmnanpaaGreatDoor
open Go.RowKit Go.Maps
theorem aS1(t:T)(f:F)(fa na:Option Addr)(fc nc:Nat)(w:World)(P Q:Nat→Prop)(hT:TRep w P t (.agg #[.string t.name,.string t.key,.slice fa t.fields.length fc]))(hF:FRep w Q f (fval f na nc))(hP:∀b,P b→b<w.heap.size)(hQ:∀b,Q b→b<w.heap.size)(hl:t.fields.length≤1000000000)(hl2:f.needs.length≤1000000000):
  Calls Tryz.prog 154 #[.agg #[.string t.name,.string t.key,.slice fa t.fields.length fc],fval f na nc] w fun e w'=>∃fa' fc',e=.returned (.agg #[.string t.name,.string t.key,.slice fa' (putF t f).fields.length fc'])∧TRep w' (fun b=>P b∨Q b∨(w.heap.size≤b∧b<w'.heap.size)) (putF t f) (.agg #[.string t.name,.string t.key,.slice fa' (putF t f).fields.length fc'])∧Below w.heap.size w w':=by
 have hx:aAC t f.name=aAI (fun i=>(fth t.fields i).name.toList==f.name.toList) t.fields.length:=rfl
 rcases aAB (fun i=>(fth t.fields i).name.toList==f.name.toList) t.fields.length with⟨h,-⟩| ⟨g,h,hg,-,-⟩
 ·exact aR2 t f fa na fc nc w P Q hT hF hP hQ hl hl2 (hx.trans h)
 ·exact aRZ t f fa na fc nc w P Q hT hF hP hQ hl hl2 g (hx.trans h) hg
end Go.Proofs.YtokmgbidmnanpaaGreatDoor
namespace Go.Proofs.YtokmgbidmnanpaaGreatDoor
open Go.RowKit
set_option maxHeartbeats 3200000 in
theorem aO2(p:Pt)(w:World)(B:Nat)(v:Value)(hP:PRep w (·<B) p v)(hB:B≤w.heap.size)(hz:szP p≤1048576):
  Calls Tryz.prog 76 #[v] w fun e w'=>e=.returned (.string ⟨(aCS p).toArray⟩)∧Below w.heap.size w w':=by
 have hP':=hP
 obtain⟨pname,types⟩:=p
 obtain⟨ta,tc,rfl,hK,hnc,hpn⟩:=hP
 simp only at hK hnc hpn hP'
 have h56:=hK.1
 have hpl:=aH3 ⟨pname,types⟩
 have hl2:(aAK ⟨pname,types⟩).length+(aAX types types.length).length≤34603020:=by rw[←List.length_append];have:(aAK ⟨pname,types⟩++aAX types types.length).length≤_:=hpl;omega
 have hpz:pname.size≤1048576:=by have:pname.size+szTs types≤1048576:=hz;omega
 have HP0:Hid (aCS ⟨pname,types⟩=aAK ⟨pname,types⟩++aAX types types.length):=rfl
 have HH:Hid ((⟨#[112,97,114,116,32]⟩++pname++⟨#[10]⟩:ByteArray)=⟨(aAK ⟨pname,types⟩++aAX types 0).toArray⟩):=by show _=_;apply ByteArray.ext;apply Array.toList_inj.1;rw[aA8,aA8,aAX,List.append_nil];rfl
 have b1:5+pname.size≤9223372036854775807:=by omega
 have b2:5+pname.size+1≤9223372036854775807:=by omega
 have PC:∀W,Below (w.heap.size+1) (w.alloc (.cells #[.string pname,.slice ta types.length tc] 43)) W→W.cell? ⟨w.heap.size,1,none⟩=some (.slice ta types.length tc):=fun W h=>(h.cell (p:=⟨w.heap.size,1,none⟩) (by show w.heap.size<_;omega)).trans (aBQ _ _ 1 (by simp))
 go_enter Tryz.func76,Tryz.ntmps76
 go_wp2_with fail
 go_loopw [3,4] (fun o i wr=>∃k:Nat,∃x:ByteArray,k≤types.length∧i=.int .i64 k∧o=.string x∧Hid (x.data.toList=aAK ⟨pname,types⟩++aAX types k)∧Below (w.heap.size+1) (w.alloc (.cells #[.string pname,.slice ta types.length tc] 43)) wr) (fun _ i _=>types.length- (intOf i).toNat)
 case atStart=>exact⟨0,_,Nat.zero_le _,rfl,rfl,by show _=_;rw[HH.out],Below.refl _ _⟩
 case round=>
  obtain⟨k,x,hk,rfl,rfl,HX,hbl⟩:=hrel
  obtain⟨w0,rfl⟩:∃x,x=wr:=⟨wr,rfl⟩
  have hbw:Below w.heap.size w w0:=(aA2 w _).trans (hbl.mono (by omega))
  have pc:=PC w0 hbl
  have hz0:=hbl.size
  simp at hz0
  by_cases hlt:k<types.length
  ·obtain⟨b,off,fa,fc,rfl,htr,hcs⟩:=hK.at hB k hlt
   obtain⟨c0,c1,c2⟩:=hcs w0 hbw
   obtain⟨fa',fc',e0,e1,e2,hfs,hffc,hs1,hs2⟩:=htr.parts
   simp only[Value.slice.injEq] at e2
   obtain⟨rfl,-,rfl⟩:=e2
   have hf56:=hfs.1
   have hszT:=aRA ⟨pname,types⟩ k hlt hz
   simp only at hszT
   have hszT2:(tth types k).name.size+(tth types k).key.size+szFs (tth types k).fields≤1048576:=hszT
   have hlk:=aIL types (k+1) _ hlt
   rw[aAX,List.length_append,List.length_append] at hlk
   have hxs:x.size=(aAK ⟨pname,types⟩).length+(aAX types k).length:=by rw[←tl,HX.out,List.length_append]
   have b3:x.size+5≤9223372036854775807:=by omega
   have b4:x.size+5+(tth types k).name.size≤9223372036854775807:=by omega
   have b5:x.size+5+(tth types k).name.size+5≤9223372036854775807:=by omega
   have b6:x.size+5+(tth types k).name.size+5+(tth types k).key.size≤9223372036854775807:=by omega
   have b7:x.size+5+(tth types k).name.size+5+(tth types k).key.size+1≤9223372036854775807:=by omega
   have b8:x.size+5+(tth types k).name.size+1≤9223372036854775807:=by omega
   have HTY:Hid (aB6 (tth types k)=[116,121,112,101,32]++(tth types k).name.data.toList++keyL (tth types k)++[10]):=rfl
   have hk0:=heap_alloc_new w0 (.cells #[.string (tth types k).name,.string (tth types k).key,.slice fa (tth types k).fields.length fc] 52)
   clear hcs htr e0 e1 hxs
   cases hke:(tth types k).key.toList.isEmpty
   ·have hkl:keyL (tth types k)=[32,107,101,121,32]++(tth types k).key.data.toList:=by rw[keyL,if_neg (by rw[hke];simp)]
    go_wp2_with fail
    have HTH:Hid ((x++⟨#[116,121,112,101,32]⟩++(tth types k).name++⟨#[32,107,101,121,32]⟩++(tth types k).key++⟨#[10]⟩:ByteArray).data.toList=aAK ⟨pname,types⟩++aAX types k++aB6 (tth types k)++aB0 (tth types k).fields 0):=by
     show _=_
     rw[aA8,aA8,aA8,aA8,aA8,HX.out,aB0,List.append_nil,HTY.out,hkl];simp
    have TC:∀W:World,W.heap[w0.heap.size]?=some (.cells #[.string (tth types k).name,.string (tth types k).key,.slice fa (tth types k).fields.length fc] 52 (0,0))→W.cell? ⟨w0.heap.size,2,none⟩=some (.slice fa (tth types k).fields.length fc):=fun W h=>(aA1 h 2 (by simp)).1
    go_loopw [3,6] (fun o i w2=>∃j:Nat,∃y:ByteArray,j≤(tth types k).fields.length∧i=.int .i64 j∧o=.string y∧Hid (y.data.toList=aAK ⟨pname,types⟩++aAX types k++aB6 (tth types k)++aB0 (tth types k).fields j)∧Below (w.heap.size+1) (w.alloc (.cells #[.string pname,.slice (some ⟨b,off,none⟩) types.length tc] 43)) w2∧w2.heap[w0.heap.size]?=some (.cells #[.string (tth types k).name,.string (tth types k).key,.slice fa (tth types k).fields.length fc] 52 (0,0))) (fun _ i _=>(tth types k).fields.length- (intOf i).toNat)
    case atStart=>exact⟨0,_,Nat.zero_le _,rfl,rfl,HTH,hbl.alloc (by omega) _,hk0⟩
    case round=>
     obtain⟨j,y,hj,rfl,rfl,HY,hbl5,hk5⟩:=hrel
     obtain⟨w5,rfl⟩:∃x,x=wr:=⟨wr,rfl⟩
     have hw5:Below w.heap.size w w5:=(aA2 w _).trans (hbl5.mono (by omega))
     have z5:w0.heap.size<w5.heap.size:=(Array.getElem?_eq_some_iff.1 hk5).1
     have t5:=TC w5 hk5
     by_cases hjl:j<(tth types k).fields.length
     ·obtain⟨b2,off2,na,nc,rfl,hfr2,hcs2⟩:=hfs.at hB j hjl
      obtain⟨c0,c1,c2,c3,c4,c5,c6,c7⟩:=hcs2 w5 hw5
      have hsf:=aMG (tth types k) j hjl hszT
      have hln:=aEM (tth types k).fields (j+1) _ hjl
      rw[aB0,List.length_append] at hln
      have hys:y.size=(aAK ⟨pname,types⟩).length+(aAX types k).length+(aB6 (tth types k)).length+(aB0 (tth types k).fields j).length:=by rw[←tl,HY.out,List.length_append,List.length_append,List.length_append]
      have b9:y.size+(aGK (fth (tth types k).fields j)).size≤9223372036854775807:=by rw[tl] at hln;omega
      obtain⟨-,-,-,-,-,-,-,-,hSt,hncc,-,-⟩:=hfr2.vals
      have hwl:=aKS (fth (tth types k).fields j).name (fth (tth types k).fields j).of (fth (tth types k).fields j).list (fth (tth types k).fields j).must (fth (tth types k).fields j).far (fth (tth types k).fields j).hidden (fth (tth types k).fields j).shared (fth (tth types k).fields j).needs w5 na nc ((hSt.under (hw5.mono hB)).sub fun q hq=>by omega) hsf
      rw[show(⟨(fth (tth types k).fields j).name,(fth (tth types k).fields j).of,(fth (tth types k).fields j).list,(fth (tth types k).fields j).must,(fth (tth types k).fields j).far,(fth (tth types k).fields j).hidden,(fth (tth types k).fields j).shared,(fth (tth types k).fields j).needs⟩:F)=fth (tth types k).fields j from rfl] at hwl
      clear hcs2 hys hln
      go_wp2_with (
       go_at_call 118
       refine hwl.mono ?_
       rintro e w6 ⟨rfl,hb6⟩)
      go_roundw
      case rel=>exact⟨j+1,_,by omega,by go_num,rfl,by show _=_;rw[aB0,aA8,HY.out];simp only[List.append_assoc],hbl5.trans (hb6.mono (by omega)),(hb6.block _ z5).trans hk5⟩
      case measure=>simp[intOf];omega
     ·go_wp2_with fail
      go_roundw
      case rel=>
       have ej:j=(tth types k).fields.length:=by omega
       exact⟨k+1,y,by omega,by go_num,rfl,by show _=_;rw[HY.out,aAX,ej];simp only[List.append_assoc],hbl5⟩
      case measure=>simp[intOf];omega
   ·have hkl:keyL (tth types k)=[]:=by rw[keyL,if_pos hke]
    go_wp2_with fail
    have HTH:Hid ((x++⟨#[116,121,112,101,32]⟩++(tth types k).name++⟨#[10]⟩:ByteArray).data.toList=aAK ⟨pname,types⟩++aAX types k++aB6 (tth types k)++aB0 (tth types k).fields 0):=by
     show _=_
     rw[aA8,aA8,aA8,HX.out,aB0,List.append_nil,HTY.out,hkl];simp
    have TC:∀W:World,W.heap[w0.heap.size]?=some (.cells #[.string (tth types k).name,.string (tth types k).key,.slice fa (tth types k).fields.length fc] 52 (0,0))→W.cell? ⟨w0.heap.size,2,none⟩=some (.slice fa (tth types k).fields.length fc):=fun W h=>(aA1 h 2 (by simp)).1
    go_loopw [3,6] (fun o i w2=>∃j:Nat,∃y:ByteArray,j≤(tth types k).fields.length∧i=.int .i64 j∧o=.string y∧Hid (y.data.toList=aAK ⟨pname,types⟩++aAX types k++aB6 (tth types k)++aB0 (tth types k).fields j)∧Below (w.heap.size+1) (w.alloc (.cells #[.string pname,.slice (some ⟨b,off,none⟩) types.length tc] 43)) w2∧w2.heap[w0.heap.size]?=some (.cells #[.string (tth types k).name,.string (tth types k).key,.slice fa (tth types k).fields.length fc] 52 (0,0))) (fun _ i _=>(tth types k).fields.length- (intOf i).toNat)
    case atStart=>exact⟨0,_,Nat.zero_le _,rfl,rfl,HTH,hbl.alloc (by omega) _,hk0⟩
    case round=>
     obtain⟨j,y,hj,rfl,rfl,HY,hbl5,hk5⟩:=hrel
     obtain⟨w5,rfl⟩:∃x,x=wr:=⟨wr,rfl⟩
     have hw5:Below w.heap.size w w5:=(aA2 w _).trans (hbl5.mono (by omega))
     have z5:w0.heap.size<w5.heap.size:=(Array.getElem?_eq_some_iff.1 hk5).1
     have t5:=TC w5 hk5
     by_cases hjl:j<(tth types k).fields.length
     ·obtain⟨b2,off2,na,nc,rfl,hfr2,hcs2⟩:=hfs.at hB j hjl
      obtain⟨c0,c1,c2,c3,c4,c5,c6,c7⟩:=hcs2 w5 hw5
      have hsf:=aMG (tth types k) j hjl hszT
      have hln:=aEM (tth types k).fields (j+1) _ hjl
      rw[aB0,List.length_append] at hln
      have hys:y.size=(aAK ⟨pname,types⟩).length+(aAX types k).length+(aB6 (tth types k)).length+(aB0 (tth types k).fields j).length:=by rw[←tl,HY.out,List.length_append,List.length_append,List.length_append]
      have b9:y.size+(aGK (fth (tth types k).fields j)).size≤9223372036854775807:=by rw[tl] at hln;omega
      obtain⟨-,-,-,-,-,-,-,-,hSt,hncc,-,-⟩:=hfr2.vals
      have hwl:=aKS (fth (tth types k).fields j).name (fth (tth types k).fields j).of (fth (tth types k).fields j).list (fth (tth types k).fields j).must (fth (tth types k).fields j).far (fth (tth types k).fields j).hidden (fth (tth types k).fields j).shared (fth (tth types k).fields j).needs w5 na nc ((hSt.under (hw5.mono hB)).sub fun q hq=>by omega) hsf
      rw[show(⟨(fth (tth types k).fields j).name,(fth (tth types k).fields j).of,(fth (tth types k).fields j).list,(fth (tth types k).fields j).must,(fth (tth types k).fields j).far,(fth (tth types k).fields j).hidden,(fth (tth types k).fields j).shared,(fth (tth types k).fields j).needs⟩:F)=fth (tth types k).fields j from rfl] at hwl
      clear hcs2 hys hln
      go_wp2_with (
       go_at_call 118
       refine hwl.mono ?_
       rintro e w6 ⟨rfl,hb6⟩)
      go_roundw
      case rel=>exact⟨j+1,_,by omega,by go_num,rfl,by show _=_;rw[aB0,aA8,HY.out];simp only[List.append_assoc],hbl5.trans (hb6.mono (by omega)),(hb6.block _ z5).trans hk5⟩
      case measure=>simp[intOf];omega
     ·go_wp2_with fail
      go_roundw
      case rel=>
       have ej:j=(tth types k).fields.length:=by omega
       exact⟨k+1,y,by omega,by go_num,rfl,by show _=_;rw[HY.out,aAX,ej];simp only[List.append_assoc],hbl5⟩
      case measure=>simp[intOf];omega
  ·go_wp2_with fail
   have ek:k=types.length:=by omega
   have hxe:x=⟨(aCS ⟨pname,types⟩).toArray⟩:=by apply ByteArray.ext;apply Array.toList_inj.1;rw[HX.out,HP0.out,ek]
   go_ret
   exact⟨by rw[←hxe];rfl,hbw⟩
end Go.Proofs.YtokmgbidmnanpaaGreatDoor
