import Derived.Test.YtcebpkeiaiiphaaGreatDoorRB24
import Derived.Test.YtcebpkeiaiiphaaGreatDoorRB21
set_option linter.unusedSimpArgs false
set_option linter.unusedVariables false
namespace Go.Proofs.YtcebpkeiaiiphaaGreatDoor
open Go.RowKit
theorem aTC(fs:List F)(k:Nat)(g:F)(hk:k<fs.length):szFs (fs.set k g)+szF (fth fs k)=szFs fs+szF g:=by
 unfold szFs aBC
 rw[List.length_set]
 have:=aHI (fun i=>szF (fth (fs.set k g) i)) (fun i=>szF (fth fs i)) k (fun i hi=>by show szF _=szF _;rw[aKT _ _ _ _ hi]) fs.length hk
 simp only[aKG _ _ _ hk] at this
 omega
theorem aRQ(fs:List F)(g:F):szFs (fs++[g])=szFs fs+1+szF g:=by
 unfold szFs
 rw[List.length_append,List.length_singleton,aC1,aGC]
 have:aBC (fs++[g]) fs.length=aBC fs fs.length:=aOA _ _ _ fun i hi=>by rw[aG9 _ _ _ hi]
 omega
theorem aT7(ts:List T)(k:Nat)(g:T)(hk:k<ts.length):szTs (ts.set k g)+szT (tth ts k)=szTs ts+szT g:=by
 unfold szTs aB8
 rw[List.length_set]
 have:=aHI (fun i=>szT (tth (ts.set k g) i)) (fun i=>szT (tth ts i)) k (fun i hi=>by show szT _=szT _;rw[aFL _ _ _ _ hi]) ts.length hk
 simp only[aH5 _ _ _ hk] at this
 omega
theorem aQD(ts:List T)(g:T):szTs (ts++[g])=szTs ts+1+szT g:=by
 unfold szTs
 rw[List.length_append,List.length_singleton,aBM,aDY]
 have:aB8 (ts++[g]) ts.length=aB8 ts ts.length:=aOA _ _ _ fun i hi=>by rw[aEP _ _ _ hi]
 omega
theorem aU7(t:T)(f:F):szT (putF t f)≤szT t+1+szF f:=by
 unfold putF
 split
 ·rename_i h
  have hx:aAC t f.name=aA9 (fun i=>(fth t.fields i).name.toList==f.name.toList) t.fields.length:=rfl
  rcases aA8 (fun i=>(fth t.fields i).name.toList==f.name.toList) t.fields.length with⟨h2,-⟩| ⟨g,h2,hg,-,-⟩
  ·rw[hx,h2] at h;omega
  ·rw[hx,h2]
   show t.name.size+t.key.size+szFs (t.fields.set (g:Int).toNat _)≤_
   rw[Int.toNat_natCast]
   have h3:=aTC t.fields g { (fth t.fields g) with hidden:=(fth t.fields g).hidden||f.hidden,needs:=if f.needs.length=0 then(fth t.fields g).needs else f.needs } hg
   have h4:szF { (fth t.fields g) with hidden:=(fth t.fields g).hidden||f.hidden,needs:=if f.needs.length=0 then(fth t.fields g).needs else f.needs }≤szF (fth t.fields g)+szF f:=by
    unfold szF
    simp only
    split<;>omega
   unfold szT
   omega
 ·show t.name.size+t.key.size+szFs (t.fields++[_])≤_
  rw[aRQ]
  unfold szT szF
  simp only
  omega
theorem aSA(o t:T)(n:Nat):szT (aFB o t n)≤szT o+n+aBC t.fields n:=by
 induction n with
 |zero=>simp[aFB]
 |succ n ih=>
  rw[aFB,aC1]
  have:=aU7 (aFB o t n) (fth t.fields n)
  omega
theorem aT2(ps:List Pt)(out:List T)(t:T)(K:Nat)(hK:(keyM ps t.name).size≤K):szTs (aS0 ps out t)≤szTs out+szT t+K+1:=by
 rw[←aGR]
 unfold midT
 have h1:=aT7 (aD2 ps out t) (atT out t) (aFB (tth (aD2 ps out t) (atT out t)) t t.fields.length) (aOI ps out t)
 have h2:=aSA (tth (aD2 ps out t) (atT out t)) t t.fields.length
 have h3:szTs (aD2 ps out t)≤szTs out+t.name.size+K+1:=by
  unfold aD2
  split
  ·omega
  ·rw[aQD]
   have:szT ⟨t.name,keyM ps t.name,[]⟩=t.name.size+(keyM ps t.name).size:=by simp[szT,szFs,aBC]
   omega
 have h4:szT t=t.name.size+t.key.size+(t.fields.length+aBC t.fields t.fields.length):=rfl
 omega
theorem aPG(ps:List Pt)(p:Pt)(out:List T)(K:Nat)(hK:∀nm,(keyM ps nm).size≤K)(k:Nat):szTs (aC8 ps p out k)≤szTs out+aB8 p.types k+k*(K+1):=by
 induction k with
 |zero=>simp[aC8]
 |succ k ih=>
  rw[aC8,aBM,Nat.succ_mul]
  have:=aT2 ps (aC8 ps p out k) (tth p.types k) K (hK _)
  omega
theorem aP6(ps:List Pt)(K M L:Nat)(hK:∀nm,(keyM ps nm).size≤K)(i:Nat)(hM:∀j,j<i→szP (pth ps j)≤M)(hL:∀j,j<i→(pth ps j).types.length≤L):szTs (aBW ps i)≤i*(M+L*(K+1)):=by
 induction i with
 |zero=>simp[aBW,szTs,aB8]
 |succ i ih=>
  rw[aBW,Nat.succ_mul]
  have h1:=ih (fun j hj=>hM j (by omega)) (fun j hj=>hL j (by omega))
  have h2:=aPG ps (pth ps i) (aBW ps i) K hK (pth ps i).types.length
  have h3:=hM i (by omega)
  have h4:szP (pth ps i)=(pth ps i).name.size+((pth ps i).types.length+aB8 (pth ps i).types (pth ps i).types.length):=rfl
  have h5:=Nat.mul_le_mul_right (K+1) (hL i (by omega))
  omega
theorem aU0(ps:List Pt)(K M L:Nat)(hK:∀nm,(keyM ps nm).size≤K)(hM:∀j,j<ps.length→szP (pth ps j)≤M)(hL:∀j,j<ps.length→(pth ps j).types.length≤L):szP (allM ps)≤1+ps.length*(M+L*(K+1)):=by
 have h1:=aP6 ps K M L hK ps.length hM hL
 show(1:Nat)+szTs (aBW ps ps.length)≤_
 omega
theorem aF7(ts:List T)(k:Nat):∀n,k<n→szT (tth ts k)≤aB8 ts n
 |0,h=>absurd h (Nat.not_lt_zero _)
 |n+1,h=>by
  rw[aBM]
  by_cases e:k=n
  ·subst e;omega
  ·have:=aF7 ts k n (by omega)
   omega
theorem aFO(p:Pt)(nm:ByteArray):szT (aA7 p nm)≤szP p:=by
 have hz:∀k,szT (tth p.types k)≤szP p:=fun k=>by
  have h4:szP p=p.name.size+(p.types.length+aB8 p.types p.types.length):=rfl
  by_cases h:k<p.types.length
  ·have:=aF7 p.types k p.types.length h
   omega
  ·have:tth p.types k=T.zero:=by simp[tth,List.getD_eq_getElem?_getD,List.getElem?_eq_none (Nat.le_of_not_lt h)]
   rw[this]
   exact Nat.zero_le _
 unfold aA7
 split
 ·exact hz _
 ·exact Nat.zero_le _
theorem aTZ(ps:List Pt)(M:Nat)(hM:∀j,j<ps.length→szP (pth ps j)≤M)(nm:ByteArray):(keyM ps nm).size≤M:=by
 unfold keyM
 split
 ·rename_i hx
  have hk:aNB ps nm=aA9 (fun i=>!(aA7 (pth ps i) nm).key.toList.isEmpty) ps.length:=rfl
  rcases aA8 (fun i=>!(aA7 (pth ps i) nm).key.toList.isEmpty) ps.length with⟨h2,-⟩| ⟨g,h2,hg,-,-⟩
  ·rw[hk,h2] at hx;omega
  ·rw[hk,h2,Int.toNat_natCast]
   have h1:=aFO (pth ps g) nm
   have h3:=hM g hg
   have h4:szT (aA7 (pth ps g) nm)=(aA7 (pth ps g) nm).name.size+(aA7 (pth ps g) nm).key.size+szFs (aA7 (pth ps g) nm).fields:=rfl
   omega
 ·exact Nat.zero_le _
theorem aH4(ps:List Pt)(h4:ps.length≤4)(h:∀i,i<ps.length→okP (pth ps i)=true):szP (allM ps)≤1048576:=by
 have hM:∀j,j<ps.length→szP (pth ps j)≤1500:=fun j hj=>(aMZ _ (h j hj)).1
 have h1:=aU0 ps 1500 1500 5 (aTZ ps 1500 hM) hM (fun j hj=>(aMZ _ (h j hj)).2)
 have h2:ps.length*(1500+5*(1500+1))≤4*(1500+5*(1500+1)):=Nat.mul_le_mul_right _ h4
 omega
theorem aOR(p:Pt)(k:Nat):fcT p k≤aB8 p.types k+k:=by
 induction k with
 |zero=>exact Nat.zero_le _
 |succ k ih=>
  rw[fcT,aBM]
  have h4:szT (tth p.types k)=(tth p.types k).name.size+(tth p.types k).key.size+((tth p.types k).fields.length+aBC (tth p.types k).fields (tth p.types k).fields.length):=rfl
  omega
theorem aUP(ps:List Pt)(M i:Nat)(hM:∀j,j<i→szP (pth ps j)≤M):fcP ps i≤i*M:=by
 induction i with
 |zero=>exact Nat.zero_le _
 |succ i ih=>
  rw[fcP,Nat.succ_mul]
  have h1:=ih fun j hj=>hM j (by omega)
  have h2:=aOR (pth ps i) (pth ps i).types.length
  have h3:=hM i (by omega)
  have h4:szP (pth ps i)=(pth ps i).name.size+((pth ps i).types.length+aB8 (pth ps i).types (pth ps i).types.length):=rfl
  omega
theorem aVA(ps:List Pt)(h4:ps.length≤4)(hz:∀i,i<ps.length→szP (pth ps i)≤1048576):fcP ps ps.length≤100000000:=by
 have h1:=aUP ps 1048576 ps.length hz
 have h2:ps.length*1048576≤4*1048576:=Nat.mul_le_mul_right _ h4
 omega
end Go.Proofs.YtcebpkeiaiiphaaGreatDoor
namespace Go.Proofs.YtcebpkeiaiiphaaGreatDoor
open Go.RowKit Go.Maps
theorem aRS(t:T)(f:F)(fa na:Option Addr)(fc nc:Nat)(w:World)(P Q:Nat→Prop)(hT:TRep w P t (.agg #[.string t.name,.string t.key,.slice fa t.fields.length fc]))(hF:FRep w Q f (fval f na nc))(hP:∀b,P b→b<w.heap.size)(hQ:∀b,Q b→b<w.heap.size)(hl:t.fields.length≤1000000000)(hl2:f.needs.length≤1000000000):
  Calls Tryz.prog 71 #[.agg #[.string t.name,.string t.key,.slice fa t.fields.length fc],fval f na nc] w fun e w'=>∃fa' fc',e=.returned (.agg #[.string t.name,.string t.key,.slice fa' (putF t f).fields.length fc'])∧TRep w' (fun b=>P b∨Q b∨(w.heap.size≤b∧b<w'.heap.size)) (putF t f) (.agg #[.string t.name,.string t.key,.slice fa' (putF t f).fields.length fc'])∧Below w.heap.size w w':=by
 have hx:aAC t f.name=aA9 (fun i=>(fth t.fields i).name.toList==f.name.toList) t.fields.length:=rfl
 rcases aA8 (fun i=>(fth t.fields i).name.toList==f.name.toList) t.fields.length with⟨h,-⟩| ⟨g,h,hg,-,-⟩
 ·exact aS1 t f fa na fc nc w P Q hT hF hP hQ hl hl2 (hx.trans h)
 ·exact aRY t f fa na fc nc w P Q hT hF hP hQ hl hl2 g (hx.trans h) hg
end Go.Proofs.YtcebpkeiaiiphaaGreatDoor
namespace Go.Proofs.YtcebpkeiaiiphaaGreatDoor
open Go.RowKit
attribute [local go_sem] Oper.semAt_some
def GErr(w:World):Prop:=∀g,g<8→∃T v,w.cell? ⟨g,0,none⟩=some (.iface T v)
theorem GErr.on{w w':World}(h:GErr w)(hb:Below w.heap.size w w'):GErr w':=fun g hg=>by
 obtain⟨T,v,e⟩:=h g hg
 exact⟨T,v,(hb.cell (aAA e)).trans e⟩
def aCU(ok:Bool)(e:Ending):Prop:=∃ev,e=.returned ev∧(ok=true→ev=.nilIface)∧(ok=false→∃T v,ev=.iface T v)
set_option maxHeartbeats 800000 in
theorem aR7(p:Pt)(ta:Option Addr)(tc bx:Nat)(nm:ByteArray)(w:World)(h:w.cell? ⟨bx,0,none⟩=some (.string nm)):
  Calls Tryz.prog 110 #[.agg #[.string p.name,.slice ta p.types.length tc],.pointer (some ⟨bx,0,none⟩)] w fun e w'=>e=.returned (.bool (p.name.toList==nm.toList))∧Below w.heap.size w w':=by
 have b1:=aA2 w (.cells #[.string p.name,.slice ta p.types.length tc] 46)
 have n1:=aA3 (w:=w) #[.string p.name,.slice ta p.types.length tc] 46 rfl
 have x0:=(aA1 n1 0 (by simp)).1
 simp only[List.getElem_toArray,List.getElem_cons_zero] at x0
 have x1:=(b1.cell (aAA h)).trans h
 clear n1
 go_enter Tryz.func110,Tryz.ntmps110
 go_wp2_with fail
 go_ret
 exact⟨rfl,b1⟩
set_option maxHeartbeats 1600000 in
theorem aJV(ps:List Pt)(n:Nat)(nm:ByteArray)(w:World)(B:Nat)(a:Option Addr)(c bx:Nat)(hR:aAZ w (·<B) ps a)(hB:B≤w.heap.size)(hn:n≤ps.length)(h:w.cell? ⟨bx,0,none⟩=some (.string nm)):
  Calls Tryz.prog 143 #[.slice a n c,.func (.func 110) #[] #[.pointer (some ⟨bx,0,none⟩)]] w fun e w'=>e=.returned (.int .i64 (aA9 (fun i=>(pth ps i).name.toList==nm.toList) n))∧Below w.heap.size w w':=by
 have h40:=hR.1
 have HR:=aA0 hR
 have HBL:=aA0 hB
 have HH:=aA0 h
 clear hR hB h
 go_enter Tryz.func143,Tryz.ntmps143
 go_wp2_with fail
 go_loopw [8] (fun i wr=>∃k:Nat,k≤n∧i=.int .i64 k∧Hid (∀j,j<k→((pth ps j).name.toList==nm.toList)=false)∧Below w.heap.size w wr) (fun i _=>n- (intOf i).toNat)
 case atStart=>exact⟨0,Nat.zero_le _,rfl,aA0 (fun j hj=>by omega),Below.refl _ _⟩
 case round=>
  obtain⟨k,hk,rfl,HN,hb⟩:=hrel
  obtain⟨w0,rfl⟩:∃x,x=wr:=⟨wr,rfl⟩
  have zb:=hb.size
  by_cases hlt:k<n
  case neg=>
   have e:k=n:=by omega
   subst e
   have HE:=aA0 (aB2 (p:=fun i=>(pth ps i).name.toList==nm.toList) HN.out)
   go_wp2_with fail
   go_ret
   exact⟨by rw[HE.out]<;>rfl,hb⟩
  have hki:(k:Int)<(n:Int):=by omega
  obtain⟨pb,po,ta,tc,rfl,hpB,q0,q1,-⟩:=(HR.out.under (hb.mono HBL.out)).at k (by omega)
  have HF:=aA0 (aR7 (pth ps k) ta tc bx nm w0 ((hb.cell (aAA HH.out)).trans HH.out))
  have HHK:Hid (((pth ps k).name.toList==nm.toList)=true→aA9 (fun i=>(pth ps i).name.toList==nm.toList) n=(k:Nat)):=aA0 fun h=>aAU HN.out h hlt
  have HX:Hid (((pth ps k).name.toList==nm.toList)=false→∀j,j<k+1→((pth ps j).name.toList==nm.toList)=false):=aA0 fun h j hj=>by
   by_cases e:j=k
   ·subst e;exact h
   ·exact HN.out j (by omega)
  generalize pth ps k=p at*
  cases hq:(p.name.toList==nm.toList)
  ·rw[hq] at HF
   have HX2:=aA0 (HX.out hq)
   go_wp2_with fail
   refine HF.out.mono ?_
   rintro e w1 ⟨rfl,hb1⟩
   have hb01:=hb.trans (hb1.mono zb)
   go_wp2_with fail
   go_roundw
   case measure=>simp[intOf];omega
   case rel=>exact⟨k+1,by omega,by go_num,HX2,hb01⟩
  ·rw[hq] at HF
   have HE:=aA0 (HHK.out hq)
   go_wp2_with fail
   refine HF.out.mono ?_
   rintro e w1 ⟨rfl,hb1⟩
   have hb01:=hb.trans (hb1.mono zb)
   go_wp2_with fail
   go_ret
   exact⟨by rw[HE.out]<;>rfl,hb01⟩
set_option maxHeartbeats 800000 in
theorem aHL(ps:List Pt)(n:Nat)(nm:ByteArray)(w:World)(B:Nat)(a:Option Addr)(c bx:Nat)(hR:aAZ w (·<B) ps a)(hB:B≤w.heap.size)(hn:n≤ps.length)(h:w.cell? ⟨bx,0,none⟩=some (.string nm)):
  Calls Tryz.prog 109 #[.slice a n c,.func (.func 110) #[] #[.pointer (some ⟨bx,0,none⟩)]] w fun e w'=>e=.returned (.bool (!(aA6 (fun k=>!((pth ps k).name.toList==nm.toList)) n)))∧Below w.heap.size w w':=by
 have HI:=aA0 (aJV ps n nm w B a c bx hR hB hn h)
 clear hR hB h
 rcases aA8 (fun i=>(pth ps i).name.toList==nm.toList) n with⟨hx,hall⟩| ⟨k,hx,hk,hpk,-⟩
 ·have HE:Hid (aA6 (fun k=>!((pth ps k).name.toList==nm.toList)) n=true):=aA0 ((aBH _ _).2 fun i hi=>by
   show(!((pth ps i).name.toList==nm.toList))=true
   rw[show((pth ps i).name.toList==nm.toList)=false from hall i hi];rfl)
  rw[hx] at HI
  clear hall hx
  go_enter Tryz.func109,Tryz.ntmps109
  go_wp2_with (go_at_call 143;refine HI.out.mono ?_;rintro e w1 ⟨rfl,hb1⟩)
  go_ret
  exact⟨by rw[HE.out]<;>rfl,hb1⟩
 ·have HE:Hid (aA6 (fun k=>!((pth ps k).name.toList==nm.toList)) n=false):=aA0 (aAI hk (by show(!((pth ps k).name.toList==nm.toList))=false;rw[show((pth ps k).name.toList==nm.toList)=true from hpk];rfl))
  rw[hx] at HI
  clear hx hpk
  have hk0:(0:Int)≤(k:Int):=by omega
  have hk1:(k:Int)≥ 0:=hk0
  go_enter Tryz.func109,Tryz.ntmps109
  go_wp2_with (go_at_call 143;refine HI.out.mono ?_;rintro e w1 ⟨rfl,hb1⟩)
  go_ret
  exact⟨by rw[HE.out]<;>rfl,hb1⟩
def aDE(ps:List Pt):Bool:=decide (0<ps.length)&&decide (ps.length≤4)&&aA6 (aF1 ps okP) ps.length
set_option maxRecDepth 20000 in
set_option maxHeartbeats 1600000 in
theorem aEU(ps:List Pt)(w:World)(B:Nat)(a:Option Addr)(c:Nat)(hc:ps.length≤c)(hR:aAZ w (·<B) ps a)(hB:B≤w.heap.size)(hz:∀i,i<ps.length→szP (pth ps i)≤1048576)(hG:GErr w):
  Calls Tryz.prog 79 #[.slice a ps.length c] w fun e w'=>aCU (aDE ps) e∧Below w.heap.size w w':=by
 have h40:=hR.1
 have HR:=aA0 hR
 have HBL:=aA0 hB
 have HSZ:=aA0 hz
 have HG:=aA0 hG
 obtain⟨ok,hok⟩:∃ok,ok=aDE ps:=⟨_,rfl⟩
 have HEA:Hid (∀k,k<ps.length→aF1 ps okP k=false→ok=false):=aA0 fun k hk h=>by rw[hok];unfold aDE;rw[aAI hk h];simp
 have HLN:Hid ((ps.length=0∨4<ps.length)→ok=false):=aA0 fun h=>by
  rw[hok];unfold aDE
  rcases h with h| h
  ·simp[h]
  ·have:¬ps.length≤4:=by omega
   simp[this]
 have HALL:Hid (0<ps.length→ps.length≤4→aA6 (aF1 ps okP) ps.length=true→ok=true):=aA0 fun h1 h2 h3=>by
  rw[hok];unfold aDE
  rw[h3]
  simp[h1,h2]
 rw[←hok]
 clear hok hR hB hz
 by_cases hlen:ps.length=0∨4<ps.length
 ·have HE:=aA0 (HLN.out hlen)
  obtain⟨T0,v0,g0⟩:=hG 0 (by omega)
  rcases hlen with hl0| hl4
  ·rw[hl0]
   go_enter Tryz.func79,Tryz.ntmps79
   go_wp2_with fail
   go_ret
   rw[HE.out]
   exact⟨⟨_,rfl,(fun h=>by cases h),fun _=>⟨T0,v0,rfl⟩⟩,Below.refl _ _⟩
  ·have h0:((ps.length:Int)==0)=false:=beq_eq_false_iff_ne.2 (by omega)
   have h4:(4:Int)<(ps.length:Int):=by omega
   go_enter Tryz.func79,Tryz.ntmps79
   go_wp2_with fail
   go_ret
   rw[HE.out]
   exact⟨⟨_,rfl,(fun h=>by cases h),fun _=>⟨T0,v0,rfl⟩⟩,Below.refl _ _⟩
 have h0:((ps.length:Int)==0)=false:=beq_eq_false_iff_ne.2 (by omega)
 have h4:¬(4:Int)<(ps.length:Int):=by omega
 have HAL2:=aA0 (HALL.out (by omega) (by omega))
 have hl4:ps.length≤4:=by omega
 clear HALL HLN hlen hG
 go_enter Tryz.func79,Tryz.ntmps79
 go_wp2_with fail
 go_loopw [16] (fun i wr=>∃k:Nat,k≤ps.length∧i=.int .i64 k∧Hid (aA6 (aF1 ps okP) k=true)∧Below w.heap.size w wr) (fun i _=>ps.length- (intOf i).toNat)
 case atStart=>exact⟨0,Nat.zero_le _,rfl,aA0 rfl,Below.refl _ _⟩
 case round=>
  obtain⟨k,hk,rfl,HK,hb⟩:=hrel
  obtain⟨w0,rfl⟩:∃x,x=wr:=⟨wr,rfl⟩
  have zb:=hb.size
  by_cases hlt:k<ps.length
  case neg=>
   have ek:k=ps.length:=by omega
   subst ek
   have HE:=aA0 (HAL2.out HK.out)
   go_wp2_with fail
   go_ret
   rw[HE.out]
   exact⟨⟨_,rfl,fun _=>rfl,fun h=>by cases h⟩,hb⟩
  have hki:(k:Int)<(ps.length:Int):=by omega
  obtain⟨pb,po,ta,tc,rfl,hpB,q0,q1,hP⟩:=(HR.out.under (hb.mono HBL.out)).at k hlt
  have HEK:=aA0 (HEA.out k hlt)
  have HEB:Hid (aF1 ps okP k=(okP (pth ps k)&&aA6 (fun j=>!((pth ps j).name.toList==(pth ps k).name.toList)) k)):=aA0 rfl
  have HNX:Hid (aA6 (aF1 ps okP) (k+1)=aF1 ps okP k):=aA0 (by rw[aA6,HK.out,Bool.true_and])
  have bX:=aA2 w0 (.cells #[.string (pth ps k).name,.slice ta (pth ps k).types.length tc] 46)
  have nX:=aA3 (w:=w0) #[.string (pth ps k).name,.slice ta (pth ps k).types.length tc] 46 rfl
  have zX:(w0.alloc (.cells #[.string (pth ps k).name,.slice ta (pth ps k).types.length tc] 46)).heap.size=w0.heap.size+1:=by simp
  have HPC:=aA0 (fun W (hW:Below w0.heap.size w0 W)=>aEN (pth ps k) W B _ (hP.under (hW.mono (by have:=HBL.out;omega))) (by have:=HBL.out;have:=hW.size;omega) (HSZ.out k hlt))
  have HCF:=aA0 (fun W (hW:Below w0.heap.size w0 W) (h:W.cell? ⟨w0.heap.size,0,none⟩=some (.string (pth ps k).name))=>aHL ps k (pth ps k).name W B (some ⟨pb,po,none⟩) c w0.heap.size (HR.out.under ((hb.trans (hW.mono zb)).mono HBL.out)) (by have:=HBL.out;have:=hW.size;omega) hk h)
  obtain⟨okp,hokp⟩:∃okp,okp=okP (pth ps k):=⟨_,rfl⟩
  have HPO:=aA0 (fun h=>aKH (pth ps k) (hokp▸h))
  have HPB:=aA0 (fun h=>aIZ (pth ps k) (hokp▸h))
  rw[←hokp] at HEB
  clear hP hokp
  generalize (pth ps k)=p at*
  generalize aFG p=pe at*
  generalize aA6 (fun j=>!((pth ps j).name.toList==p.name.toList)) k=alone at*
  have HG1:=aA0 (fun W (hW:Below w0.heap.size w0 W)=>(HG.out.on (hb.trans (hW.mono zb))))
  have x0:=(aA1 nX 0 (by simp)).1
  have x1:=(aA1 nX 1 (by simp)).1
  simp only[List.getElem_toArray,List.getElem_cons_zero,List.getElem_cons_succ] at x0 x1
  have hk0i:(0:Int)≤(k:Int):=by omega
  have hkci:(k:Int)≤(c:Int):=by omega
  have hcne:(c=0)=False:=by simp;omega
  cases okp
  ·have HE:=aA0 (HEK.out (by rw[HEB.out];rfl))
   rcases HPB.out rfl with⟨x,hx⟩| ⟨i,x,hx⟩
   all_goals
    rw[hx] at HPC
    go_wp2_with (go_at_call 66;refine(HPC.out _ bX).mono ?_;rintro e w1 ⟨rfl,hb1⟩;obtain⟨T1,v1,g1⟩:=HG1.out w1 (bX.trans (hb1.mono bX.size)) 1 (by omega))
    go_ret
    rw[HE.out]
    exact⟨⟨_,rfl,(fun h=>by cases h),fun _=>⟨_,_,rfl⟩⟩,hb.trans ((bX.trans (hb1.mono bX.size)).mono zb)⟩
  rw[HPO.out rfl] at HPC
  cases alone
  ·have HE:=aA0 (HEK.out (by rw[HEB.out];rfl))
   go_wp2_with (first
    |(go_at_call 66;refine(HPC.out _ bX).mono ?_;rintro e w1 ⟨rfl,hb1⟩;have b01:=bX.trans (hb1.mono bX.size);have y0:=(hb1.cell (aAA x0)).trans x0)
    |(go_at_call 109;refine(HCF.out w1 b01 y0).mono ?_;rintro e w2 ⟨rfl,hb2⟩;have b02:=b01.trans (hb2.mono b01.size);obtain⟨T2,v2,g2⟩:=HG1.out w2 b02 2 (by omega)))
   go_ret
   rw[HE.out]
   exact⟨⟨_,rfl,(fun h=>by cases h),fun _=>⟨_,_,rfl⟩⟩,hb.trans (b02.mono zb)⟩
  ·have HK1:=aA0 (HNX.out.trans (by rw[HEB.out]<;>rfl))
   go_wp2_with (first
    |(go_at_call 66;refine(HPC.out _ bX).mono ?_;rintro e w1 ⟨rfl,hb1⟩;have b01:=bX.trans (hb1.mono bX.size);have y0:=(hb1.cell (aAA x0)).trans x0)
    |(go_at_call 109;refine(HCF.out w1 b01 y0).mono ?_;rintro e w2 ⟨rfl,hb2⟩;have b02:=b01.trans (hb2.mono b01.size)))
   go_roundw
   case measure=>simp[intOf];omega
   case rel=>exact⟨k+1,by omega,by go_num,HK1,hb.trans (b02.mono zb)⟩
end Go.Proofs.YtcebpkeiaiiphaaGreatDoor
