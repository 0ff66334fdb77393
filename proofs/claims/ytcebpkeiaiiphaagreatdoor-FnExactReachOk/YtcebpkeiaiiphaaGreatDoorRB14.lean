import Derived.Test.YtcebpkeiaiiphaaGreatDoorRB13
set_option linter.unusedSimpArgs false
set_option linter.unusedVariables false
namespace Go.Proofs.YtcebpkeiaiiphaaGreatDoor
open Go.RowKit
theorem aF2(FW:World)(tmps:Array Value)(N:Nat)(ok:Bool)(v0 v1 v2 v3 v4 v5 v6 v7:Value)(h6:tmps.getD 6 undef=.pointer (some ⟨N,0,none⟩))(h7:tmps.getD 7 undef=.bool ok)
  (d0:FW.cell? ⟨N,0,none⟩=some v0) (d1:FW.cell? ⟨N,1,none⟩=some v1) (d2:FW.cell? ⟨N,2,none⟩=some v2) (d3:FW.cell? ⟨N,3,none⟩=some v3) (d4:FW.cell? ⟨N,4,none⟩=some v4) (d5:FW.cell? ⟨N,5,none⟩=some v5) (d6:FW.cell? ⟨N,6,none⟩=some v6) (d7:FW.cell? ⟨N,7,none⟩=some v7):
  (results Tryz.f38 tmps).run Tryz.prog FW=.ok (.tuple #[.agg #[v0,v1,v2,v3,v4,v5,v6,v7],.bool ok]) FW:=by
 simp only[Array.getD_eq_getD_getElem?] at h6 h7
 simp[results,Tryz.results38,go_sem,h6,h7,d0,d1,d2,d3,d4,d5,d6,d7]
def getF(p:Pt)(s f:ByteArray):F:=if 0≤aAS p s then aB9 (aA7 p s) f else F.zero
def getB(p:Pt)(s f:ByteArray):Bool:=decide (0≤aAS p s)&&decide (0≤aAC (aA7 p s) f)
set_option maxRecDepth 20000 in
set_option maxHeartbeats 3200000 in
theorem aQX(p:Pt)(s f:ByteArray)(w:World)(B:Nat)(v:Value)(hP:PRep w (·<B) p v)(hB:B≤w.heap.size):
  Calls Tryz.prog 38 #[v,.string s,.string f] w fun e w'=>∃(nm of:ByteArray) (l m fr hi sh:Bool) (na:Option Addr) (nc:Nat),
   e=.returned (.tuple #[.agg #[.string nm,.string of,.bool l,.bool m,.bool fr,.bool hi,.bool sh,.slice na (getF p s f).needs.length nc],.bool (getB p s f)])∧Below w.heap.size w w'∧
   FRep w' (·<B) (getF p s f) (.agg #[.string nm,.string of,.bool l,.bool m,.bool fr,.bool hi,.bool sh,.slice na (getF p s f).needs.length nc]):=by
 have hP':=hP
 obtain⟨pname,types⟩:=p
 obtain⟨ta,tc,rfl,hK,hnc,hpn⟩:=hP
 simp only at hK hnc hpn hP'
 obtain⟨X,hXe⟩:∃X,X=((w.alloc (.cells #[.string pname,.slice ta types.length tc] 46)).alloc (.cells #[.string ByteArray.empty,.string ByteArray.empty,.bool false,.bool false,.bool false,.bool false,.bool false,.slice none 0 0] 80)):=⟨_,rfl⟩
 have PC:∀W,Below (w.heap.size+1+1) X W→W.cell? ⟨w.heap.size,0,none⟩=some (.string pname)∧W.cell? ⟨w.heap.size,1,none⟩=some (.slice ta types.length tc)∧W.heap[w.heap.size+1]?=some (.cells #[.string ByteArray.empty,.string ByteArray.empty,.bool false,.bool false,.bool false,.bool false,.bool false,.slice none 0 0] 80 (0,0))∧Below w.heap.size w W∧w.heap.size+1<W.heap.size:=fun W h=>by
  subst hXe
  have hz:=h.size
  simp at hz
  have a:∀i (hi:i<2),W.cell? ⟨w.heap.size,i,none⟩=some #[Value.string pname,.slice ta types.length tc][i]:=fun i hi=>(h.cell (p:=⟨w.heap.size,i,none⟩) (by show w.heap.size<_;omega)).trans (((aA2 _ _).cell (p:=⟨w.heap.size,i,none⟩) (by show w.heap.size<_;simp)).trans (aBR _ _ i (by simpa using hi)))
  have hb:W.heap[w.heap.size+1]?=some (.cells #[.string ByteArray.empty,.string ByteArray.empty,.bool false,.bool false,.bool false,.bool false,.bool false,.slice none 0 0] 80 (0,0)):=(h.block (w.heap.size+1) (by omega)).trans (by have:=heap_alloc_new (w.alloc (.cells #[.string pname,.slice ta types.length tc] 46)) (.cells #[.string ByteArray.empty,.string ByteArray.empty,.bool false,.bool false,.bool false,.bool false,.bool false,.slice none 0 0] 80);simpa using this)
  exact⟨a 0 (by omega),a 1 (by omega),hb,(aA5 w _ _).trans (h.mono (by omega)),by omega⟩
 have hT0:Below (w.heap.size+1+1) X ((w.alloc (.cells #[.string pname,.slice ta types.length tc] 46)).alloc (.cells #[.string ByteArray.empty,.string ByteArray.empty,.bool false,.bool false,.bool false,.bool false,.bool false,.slice none 0 0] 80)):=by rw[hXe];exact Below.refl _ _
 clear hXe
 have hBW:=fun W (h:Below (w.heap.size+1+1) X W)=>show B≤W.heap.size by have:=(PC W h).2.2.2.2;omega
 have hI:=fun W h=>aDI ⟨pname,types⟩ W B _ s (hP'.under ((PC W h).2.2.2.1.mono hB)) (hBW W h)
 have HTX:Hid (aAS ⟨pname,types⟩ s=aA9 (fun i=>(tth types i).name.toList==s.toList) types.length):=rfl
 simp only at hI
 rw[←HTX.out] at hI
 have I1:=hI _ hT0
 rcases aA8 (fun i=>(tth types i).name.toList==s.toList) types.length with⟨hx,-⟩| ⟨g,hx,hg,-,-⟩
 ·rw[←HTX.out] at hx
  have HA:Hid (getF ⟨pname,types⟩ s f=F.zero∧getB ⟨pname,types⟩ s f=false):=⟨by rw[getF,if_neg (by rw[hx];omega)],by rw[getB,hx];simp⟩
  rw[hx] at I1
  clear hx
  go_enter Tryz.func38,Tryz.ntmps38
  go_wp2_with (first
   |(
    go_at_call 62
    refine I1.mono ?_
    rintro e w1 ⟨rfl,hb1⟩
    have hT1:=hT0.trans (hb1.mono (by simp))
    obtain⟨q0,q1,hbx,hw1,hz1⟩:=PC w1 hT1
    obtain⟨a0,b0⟩:=aA1 hbx 0 (by simp)
    obtain⟨a1,b1⟩:=aA1 hbx 1 (by simp)
    obtain⟨a2,b2⟩:=aA1 hbx 2 (by simp)
    obtain⟨a3,b3⟩:=aA1 hbx 3 (by simp)
    obtain⟨a4,b4⟩:=aA1 hbx 4 (by simp)
    obtain⟨a5,b5⟩:=aA1 hbx 5 (by simp)
    obtain⟨a6,b6⟩:=aA1 hbx 6 (by simp)
    obtain⟨a7,b7⟩:=aA1 hbx 7 (by simp)))
  obtain⟨d0,d1,d2,d3,d4,d5,d6,d7⟩:=aBX hbx rfl (.string ⟨#[]⟩) (.string ⟨#[]⟩) (.bool false) (.bool false) (.bool false) (.bool false) (.bool false) (.slice none 0 0) _ rfl
  refine bodyPost_ret (aF2 _ _ (w.heap.size+1) false (.string ⟨#[]⟩) (.string ⟨#[]⟩) (.bool false) (.bool false) (.bool false) (.bool false) (.bool false) (.slice none 0 0) rfl rfl d0 d1 d2 d3 d4 d5 d6 d7) rfl ?_
  rw[HA.out.1,HA.out.2]
  exact⟨_,_,_,_,_,_,_,_,_,rfl,aAJ hw1 (Nat.le_succ _) _ _ _ _ _ _ _ _,FRep.zero _ _⟩
 rw[←HTX.out] at hx
 have hto:aA7 ⟨pname,types⟩ s=tth types g:=by rw[aA7,if_pos (by rw[hx];omega),hx];rfl
 have HA0:Hid (getF ⟨pname,types⟩ s f=aB9 (tth types g) f∧getB ⟨pname,types⟩ s f=decide (0≤aAC (tth types g) f)):=⟨by rw[getF,if_pos (by rw[hx];omega),hto],by rw[getB,hx,hto];simp⟩
 rw[hx] at I1
 clear hx hto
 obtain⟨b,off,fa,fc,rfl,htr,hcs⟩:=hK.at hB g hg
 obtain⟨fa',fc',e0,e1,e2,hff,hffc,hs1,hs2⟩:=htr.parts
 simp only[Value.slice.injEq] at e2
 obtain⟨rfl,-,rfl⟩:=e2
 clear e0 e1
 have hgi:(g:Int)<(types.length:Int):=by omega
 have hg0:¬(g:Int)<0:=by omega
 have hL:=fun W h=>aCV (tth types g) W B _ f (htr.under ((PC W h).2.2.2.1.mono hB)) (hBW W h)
 have HFX:Hid (aAC (tth types g) f=aA9 (fun i=>(fth (tth types g).fields i).name.toList==f.toList) (tth types g).fields.length):=rfl
 rcases aA8 (fun i=>(fth (tth types g).fields i).name.toList==f.toList) (tth types g).fields.length with⟨hx,-⟩| ⟨h,hx,hh,-,-⟩
 ·rw[hx] at hL
  have HA:Hid (getF ⟨pname,types⟩ s f=F.zero∧getB ⟨pname,types⟩ s f=false):=⟨by rw[HA0.out.1,aB9,if_neg (by rw[HFX.out,hx];omega)],by rw[HA0.out.2,HFX.out,hx];rfl⟩
  clear hx
  go_enter Tryz.func38,Tryz.ntmps38
  go_wp2_with (first
   |(
    go_at_call 62
    refine I1.mono ?_
    rintro e w1 ⟨rfl,hb1⟩
    have hT1:=hT0.trans (hb1.mono (by simp))
    obtain⟨q0,q1,-,hw1,hz1⟩:=PC w1 hT1
    obtain⟨c0,c1,c2⟩:=hcs w1 hw1)
   |(
    go_at_call 63
    refine(hL w1 hT1).mono ?_
    rintro e w3 ⟨rfl,hb3⟩
    have hT3:=hT1.trans (hb3.mono (by omega))
    obtain⟨y0,y1,hbx,hw3,hz3⟩:=PC w3 hT3
    obtain⟨a0,b0⟩:=aA1 hbx 0 (by simp)
    obtain⟨a1,b1⟩:=aA1 hbx 1 (by simp)
    obtain⟨a2,b2⟩:=aA1 hbx 2 (by simp)
    obtain⟨a3,b3⟩:=aA1 hbx 3 (by simp)
    obtain⟨a4,b4⟩:=aA1 hbx 4 (by simp)
    obtain⟨a5,b5⟩:=aA1 hbx 5 (by simp)
    obtain⟨a6,b6⟩:=aA1 hbx 6 (by simp)
    obtain⟨a7,b7⟩:=aA1 hbx 7 (by simp)))
  obtain⟨d0,d1,d2,d3,d4,d5,d6,d7⟩:=aBX hbx rfl (.string ⟨#[]⟩) (.string ⟨#[]⟩) (.bool false) (.bool false) (.bool false) (.bool false) (.bool false) (.slice none 0 0) _ rfl
  refine bodyPost_ret (aF2 _ _ (w.heap.size+1) false (.string ⟨#[]⟩) (.string ⟨#[]⟩) (.bool false) (.bool false) (.bool false) (.bool false) (.bool false) (.slice none 0 0) rfl rfl d0 d1 d2 d3 d4 d5 d6 d7) rfl ?_
  rw[HA.out.1,HA.out.2]
  exact⟨_,_,_,_,_,_,_,_,_,rfl,aAJ hw3 (Nat.le_succ _) _ _ _ _ _ _ _ _,FRep.zero _ _⟩
 rw[hx] at hL
 have HA:Hid (getF ⟨pname,types⟩ s f=fth (tth types g).fields h∧getB ⟨pname,types⟩ s f=true):=⟨by rw[HA0.out.1,aB9,HFX.out,hx,if_pos (by omega)];rfl,by rw[HA0.out.2,HFX.out,hx];simp⟩
 clear hx HA0 HFX
 obtain⟨fb,foff,na,nc,rfl,hfr,hcf⟩:=hff.at hB h hh
 have hhi:(h:Int)<((tth types g).fields.length:Int):=by omega
 have hh0:¬(h:Int)<0:=by omega
 generalize fth (tth types g).fields h=ff at*
 go_enter Tryz.func38,Tryz.ntmps38
 go_wp2_with (first
  |(
   go_at_call 62
   refine I1.mono ?_
   rintro e w1 ⟨rfl,hb1⟩
   have hT1:=hT0.trans (hb1.mono (by simp))
   obtain⟨q0,q1,-,hw1,hz1⟩:=PC w1 hT1
   obtain⟨c0,c1,c2⟩:=hcs w1 hw1)
  |(
   go_at_call 63
   refine(hL w1 hT1).mono ?_
   rintro e w3 ⟨rfl,hb3⟩
   have hT3:=hT1.trans (hb3.mono (by omega))
   obtain⟨y0,y1,hbx,hw3,hz3⟩:=PC w3 hT3
   obtain⟨c30,c31,c32⟩:=hcs w3 hw3
   obtain⟨g0,g1,g2,g3,g4,g5,g6,g7⟩:=hcf w3 hw3
   obtain⟨a0,b0⟩:=aA1 hbx 0 (by simp)
   obtain⟨a1,b1⟩:=aA1 hbx 1 (by simp)
   obtain⟨a2,b2⟩:=aA1 hbx 2 (by simp)
   obtain⟨a3,b3⟩:=aA1 hbx 3 (by simp)
   obtain⟨a4,b4⟩:=aA1 hbx 4 (by simp)
   obtain⟨a5,b5⟩:=aA1 hbx 5 (by simp)
   obtain⟨a6,b6⟩:=aA1 hbx 6 (by simp)
   obtain⟨a7,b7⟩:=aA1 hbx 7 (by simp)))
 obtain⟨d0,d1,d2,d3,d4,d5,d6,d7⟩:=aBX hbx rfl (.string ff.name) (.string ff.of) (.bool ff.list) (.bool ff.must) (.bool ff.far) (.bool ff.hidden) (.bool ff.shared) (.slice na ff.needs.length nc) _ rfl
 refine bodyPost_ret (aF2 _ _ (w.heap.size+1) true (.string ff.name) (.string ff.of) (.bool ff.list) (.bool ff.must) (.bool ff.far) (.bool ff.hidden) (.bool ff.shared) (.slice na ff.needs.length nc) rfl rfl d0 d1 d2 d3 d4 d5 d6 d7) rfl ?_
 rw[HA.out.1,HA.out.2]
 exact⟨_,_,_,_,_,_,_,_,_,rfl,aAJ hw3 (Nat.le_succ _) _ _ _ _ _ _ _ _,hfr.mono fun k hk=>(aDL (by omega) _ _ _ _ _ _ _ _ _).trans (hw3.block k (by omega))⟩
theorem aOY(fs:List F)(i j:Nat)(h:j<i):fth (fs.take i) j=fth fs j:=by
 simp[fth,List.getD_eq_getElem?_getD,List.getElem?_take,h]
theorem aBE.take{w:World}{P:Nat→Prop}{fs:List F}{fa:Option Addr}(h:aBE w P fs fa)(i:Nat)(hi:i≤fs.length):aBE w P (fs.take i) fa:=by
 obtain⟨h0,C,h1,h2⟩:=h
 have hl:(fs.take i).length=i:=by simp;omega
 refine⟨by rw[hl];omega,C,fun hp=>?_,fun j hj=>?_⟩
 ·obtain⟨b,off,e,hb,hc⟩:=h1 (by omega)
  exact⟨b,off,e,hb,fun j hj=>hc j (by omega)⟩
 ·rw[aOY fs i j (by omega)]
  exact h2 j (by omega)
theorem aL5{p q:Nat→Bool}(n:Nat)(h:∀i,i<n→p i=q i):aA9 p n=aA9 q n:=by
 rcases aA8 p n with⟨e,hp⟩| ⟨k,e,hk,hpk,hp⟩
 ·rw[e,aB2 fun i hi=>by rw[←h i hi];exact hp i hi]
 ·rw[e,aAU (fun i hi=>by rw[←h i (by omega)];exact hp i hi) (by rw[←h k hk];exact hpk) hk]
def aMN(t:T)(i:Nat):Bool:=!decide (0≤aA9 (fun j=>(fth t.fields j).name.toList==(fth t.fields i).name.toList) i)
def aCY(t:T)(n:Nat):Bool:=(List.range n).all fun i=>aMN t i
theorem aI2(t:T)(n:Nat):aCY t (n+1)=(aCY t n&&aMN t n):=by simp[aCY,List.range_succ]
def aCI(types:List T)(place:Nat)(t:T):Bool:=decide (0≤aA9 (fun i=>(tth types i).name.toList==t.name.toList) place)||!aCY t t.fields.length
set_option maxHeartbeats 1600000 in
theorem aJH(types:List T)(place:Nat)(t:T)(w:World)(B:Nat)(ta:Option Addr)(tc:Nat)(u:Value)(hT:aCP w (·<B) types ta)(hpl:place≤types.length)(hR:TRep w (·<B) t u)(hB:B≤w.heap.size):
  Calls Tryz.prog 132 #[.slice ta place tc,u] w fun e w'=>e=.returned (.bool (aCI types place t))∧Below w.heap.size w w':=by
 obtain⟨name,key,fields⟩:=t
 obtain⟨fa,fc,rfl,hK,hnc,hn,ho⟩:=hR
 simp only at hK hnc hn ho
 have h3:=hK.1
 have h4:=hT.1
 go_enter Tryz.func132,Tryz.ntmps132
 go_wp2_with fail
 go_loopw [13] (fun i wr=>∃k:Nat,k≤place∧i=.int .i64 k∧Below (w.heap.size+1) (w.alloc (.cells #[.string name,.string key,.slice fa fields.length fc] 96)) wr∧∀j,j<k→((tth types j).name.toList==name.toList)=false) (fun i _=>place- (intOf i).toNat)
 case atStart=>exact⟨0,Nat.zero_le _,rfl,Below.refl _ _,fun j hj=>by omega⟩
 case round=>
  obtain⟨k,hk,rfl,hbel,hp⟩:=hrel
  have HP:Hid (∀j,j<k→((tth types j).name.toList==name.toList)=false):=hp
  clear hp
  have hz:=hbel.size
  simp at hz
  have hbw:Below w.heap.size w wr:=(aA2 w _).trans (hbel.mono (by omega))
  have hcell:∀W,Below (w.heap.size+1) (w.alloc (.cells #[.string name,.string key,.slice fa fields.length fc] 96)) W→W.cell? ⟨w.heap.size,0,none⟩=some (.string name)∧W.cell? ⟨w.heap.size,2,none⟩=some (.slice fa fields.length fc):=fun W h=>
   ⟨(h.cell (p:=⟨w.heap.size,0,none⟩) (by show w.heap.size<_;omega)).trans (aBR _ _ 0 (by simp)),(h.cell (p:=⟨w.heap.size,2,none⟩) (by show w.heap.size<_;omega)).trans (aBR _ _ 2 (by simp))⟩
  by_cases hlt:k<place
  ·obtain⟨b,off,fa2,fc2,rfl,-,hcs⟩:=hT.at hB k (by omega)
   obtain⟨c0,c1,c2⟩:=hcs wr hbw
   have q0:=fun o=>(hcell (wr.alloc o) (hbel.alloc (by omega) o)).1
   clear hcs
   cases x1:((tth types k).name.toList==name.toList)
   ·go_wp2_with fail
    go_roundw
    case rel=>exact⟨k+1,by omega,by go_num,hbel.alloc (by omega) _,aJ7 HP.out x1⟩
    case measure=>simp[intOf];omega
   ·have hres:Hid (aCI types place ⟨name,key,fields⟩=true):=by
     show _=_
     rw[aCI,aAU HP.out x1 hlt,decide_eq_true (by omega)];rfl
    go_wp2_with fail
    go_ret
    exact⟨aA4 hres.out.symm,hbw.alloc (by omega) _⟩
  ·have HT:Hid (aCI types place ⟨name,key,fields⟩=!aCY ⟨name,key,fields⟩ fields.length):=by
    show _=_
    have e:k=place:=by omega
    rw[aCI,aB2 (e▸HP.out)];rfl
   clear HP
   obtain⟨q0,q2⟩:=hcell wr hbel
   go_wp2_with fail
   go_loopw [26] (fun i w2=>∃k:Nat,k≤fields.length∧i=.int .i64 k∧Below (w.heap.size+1) (w.alloc (.cells #[.string name,.string key,.slice fa fields.length fc] 96)) w2∧w.heap.size<w2.heap.size∧aCY ⟨name,key,fields⟩ k=true) (fun i _=>fields.length- (intOf i).toNat)
   case atStart=>exact⟨0,Nat.zero_le _,rfl,hbel,by omega,rfl⟩
   case round=>
    clear q0 q2 hbw hbel hz hlt hk
    rename_i wr
    obtain⟨k,hk,rfl,hbel,hz,hp⟩:=hrel
    have HP:Hid (aCY ⟨name,key,fields⟩ k=true):=hp
    clear hp
    have hbw:Below w.heap.size w wr:=(aA2 w _).trans (hbel.mono (by omega))
    by_cases hlt:k<fields.length
    ·obtain⟨b,off,na,nc,rfl,-,hcs⟩:=hK.at hB k hlt
     obtain⟨c0,c1,c2,c3,c4,c5,c6,c7⟩:=hcs wr hbw
     have q2:=fun o=>(hcell (wr.alloc o) (hbel.alloc (by omega) o)).2
     have hTR:∀W,Below w.heap.size w W→TRep W (·<B) ⟨ByteArray.empty,ByteArray.empty,fields.take k⟩ (.agg #[.string ByteArray.empty,.string ByteArray.empty,.slice (some ⟨b,off,none⟩) k fc]):=fun W hb=>
      ⟨some ⟨b,off,none⟩,fc,by simp;omega,((hK.take k (by omega)).under (hb.mono hB)),by simp;omega,by simp[maxLen],by simp[maxLen]⟩
     have hix:aAC ⟨ByteArray.empty,ByteArray.empty,fields.take k⟩ (fth fields k).name=aA9 (fun j=>(fth fields j).name.toList==(fth fields k).name.toList) k:=by
      show aA9 (fun i=>(fth (fields.take k) i).name.toList==(fth fields k).name.toList) (fields.take k).length=_
      rw[show(fields.take k).length=k by simp;omega]
      exact aL5 k fun i hi=>by rw[aOY fields k i hi]
     have hff:=fun W (hb:Below w.heap.size w W)=>aDH ⟨ByteArray.empty,ByteArray.empty,fields.take k⟩ W B _ (fth fields k).name (hTR W hb) (by have:=hb.size;omega)
     rw[hix] at hff
     have HO:Hid (aMN ⟨name,key,fields⟩ k=!decide (0≤aA9 (fun j=>(fth fields j).name.toList==(fth fields k).name.toList) k)):=rfl
     clear hcs hix hTR
     have hki:(k:Int)≤(fields.length:Int):=by omega
     have hkf:(k:Int)≤(fc:Int):=by omega
     have hW1:Below w.heap.size w (wr.alloc (.cells #[.string (fth fields k).name,.string (fth fields k).of,.bool (fth fields k).list,.bool (fth fields k).must,.bool (fth fields k).far,.bool (fth fields k).hidden,.bool (fth fields k).shared,.slice na (fth fields k).needs.length nc] 80)):=hbw.alloc (by omega) _
     have hW2:Below w.heap.size w ((wr.alloc (.cells #[.string (fth fields k).name,.string (fth fields k).of,.bool (fth fields k).list,.bool (fth fields k).must,.bool (fth fields k).far,.bool (fth fields k).hidden,.bool (fth fields k).shared,.slice na (fth fields k).needs.length nc] 80)).alloc (.cells #[.string ByteArray.empty,.string ByteArray.empty,.bool false,.bool false,.bool false,.bool false,.bool false,.slice none 0 0] 80)):=hW1.alloc (by simp;omega) _
     cases x1:decide (0≤aA9 (fun j=>(fth fields j).name.toList==(fth fields k).name.toList) k)
     ·rw[x1] at hff
      go_wp2_with fail
      go_region_held3 (fun w'=>w'.cell? ⟨w.heap.size,2,none⟩=some (.slice (some ⟨b,off,none⟩) fields.length fc)∧w'.cell? ⟨wr.heap.size,0,none⟩=some (.string (fth fields k).name)) (go_keep)
       (first
        |(
         go_at_call 98
         first
          |(
           refine(hff (wr.alloc (.cells #[.string (fth fields k).name,.string (fth fields k).of,.bool (fth fields k).list,.bool (fth fields k).must,.bool (fth fields k).far,.bool (fth fields k).hidden,.bool (fth fields k).shared,.slice na (fth fields k).needs.length nc] 80)).drew hW1.drew).mono ?_
           rintro e w1 ⟨nm,of,l,m,fr,hi,sh,na3,nl3,nc3,rfl,hb1,-⟩
           have hu:=aAF hb1
           have z1:=hu.size
           simp at z1
           have g2:=(hcell w1 ((hbel.alloc (by omega) _).trans (hu.mono (by simp;omega)))).2
           have g0:w1.cell? ⟨wr.heap.size,0,none⟩=some (.string (fth fields k).name):=(hu.cell (p:=⟨wr.heap.size,0,none⟩) (by show wr.heap.size<_;simp)).trans (aBR _ _ 0 (by simp))
           have n1:w.heap.size≠w1.heap.size:=by omega
           have n2:wr.heap.size≠w1.heap.size:=by omega
           have hfin:Below (w.heap.size+1) (w.alloc (.cells #[.string name,.string key,.slice (some ⟨b,off,none⟩) fields.length fc] 96)) w1:=(hbel.alloc (by omega) _).trans (hu.mono (by simp;omega))
           have hend:∀W,(∃o,W=w1.alloc o)→Below (w.heap.size+1) (w.alloc (.cells #[.string name,.string key,.slice (some ⟨b,off,none⟩) fields.length fc] 96)) W∧w.heap.size<W.heap.size:=fun W ⟨o,e⟩=>by subst e;exact⟨hfin.alloc (by omega) _,by simp;omega⟩)
          |(
           refine(hff ((wr.alloc (.cells #[.string (fth fields k).name,.string (fth fields k).of,.bool (fth fields k).list,.bool (fth fields k).must,.bool (fth fields k).far,.bool (fth fields k).hidden,.bool (fth fields k).shared,.slice na (fth fields k).needs.length nc] 80)).alloc (.cells #[.string ByteArray.empty,.string ByteArray.empty,.bool false,.bool false,.bool false,.bool false,.bool false,.slice none 0 0] 80)).drew hW2.drew).mono ?_
           rintro e w1 ⟨nm,of,l,m,fr,hi,sh,na3,nl3,nc3,rfl,hb1,-⟩
           have hu:=aAF hb1
           have z1:=hu.size
           simp at z1
           have g2:=(hcell w1 (((hbel.alloc (by omega) _).alloc (by simp;omega) _).trans (hu.mono (by simp;omega)))).2
           have g0:w1.cell? ⟨wr.heap.size,0,none⟩=some (.string (fth fields k).name):=(hu.cell (p:=⟨wr.heap.size,0,none⟩) (by show wr.heap.size<_;simp;omega)).trans (((aA2 _ _).cell (p:=⟨wr.heap.size,0,none⟩) (by show wr.heap.size<_;simp)).trans (aBR _ _ 0 (by simp)))
           have hzr:w1.heap[wr.heap.size+1]?=some (.cells #[.string ByteArray.empty,.string ByteArray.empty,.bool false,.bool false,.bool false,.bool false,.bool false,.slice none 0 0] 80 (0,0)):=(hu.block (wr.heap.size+1) (by simp)).trans (by have:=heap_alloc_new (wr.alloc (.cells #[.string (fth fields k).name,.string (fth fields k).of,.bool (fth fields k).list,.bool (fth fields k).must,.bool (fth fields k).far,.bool (fth fields k).hidden,.bool (fth fields k).shared,.slice na (fth fields k).needs.length nc] 80)) (.cells #[.string ByteArray.empty,.string ByteArray.empty,.bool false,.bool false,.bool false,.bool false,.bool false,.slice none 0 0] 80);simpa using this)
           have y0:=(aA1 hzr 0 (by simp)).1
           have y1:=(aA1 hzr 1 (by simp)).1
           have y2:=(aA1 hzr 2 (by simp)).1
           have y3:=(aA1 hzr 3 (by simp)).1
           have y4:=(aA1 hzr 4 (by simp)).1
           have y5:=(aA1 hzr 5 (by simp)).1
           have y6:=(aA1 hzr 6 (by simp)).1
           have y7:=(aA1 hzr 7 (by simp)).1
           have yf:∀i,w1.frozen? ⟨wr.heap.size+1,i,none⟩=false:=fun i=>frozen_of_row w1 _ i _ _ hzr
           have n1:w.heap.size≠wr.heap.size+1:=by omega
           have n3:wr.heap.size+1≠w.heap.size:=by omega
           have n4:wr.heap.size+1≠wr.heap.size:=by omega
           have n2:wr.heap.size≠wr.heap.size+1:=by omega
           have hfin:Below (w.heap.size+1) (w.alloc (.cells #[.string name,.string key,.slice (some ⟨b,off,none⟩) fields.length fc] 96)) w1:=((hbel.alloc (by omega) _).alloc (by simp;omega) _).trans (hu.mono (by simp;omega))
           have hend:∀W,(∃c0 c1 c2 c3 c4 c5 c6 c7,W=((((((((w1.setCell ⟨wr.heap.size+1,0,none⟩ c0).setCell ⟨wr.heap.size+1,1,none⟩ c1).setCell ⟨wr.heap.size+1,2,none⟩ c2).setCell ⟨wr.heap.size+1,3,none⟩ c3).setCell ⟨wr.heap.size+1,4,none⟩ c4).setCell ⟨wr.heap.size+1,5,none⟩ c5).setCell ⟨wr.heap.size+1,6,none⟩ c6).setCell ⟨wr.heap.size+1,7,none⟩ c7))→Below (w.heap.size+1) (w.alloc (.cells #[.string name,.string key,.slice (some ⟨b,off,none⟩) fields.length fc] 96)) W∧w.heap.size<W.heap.size:=fun W ⟨c0,c1,c2,c3,c4,c5,c6,c7,e⟩=>by subst e;exact⟨((((((((hfin).setCell (by show _≤wr.heap.size+1;omega) _).setCell (by show _≤wr.heap.size+1;omega) _).setCell (by show _≤wr.heap.size+1;omega) _).setCell (by show _≤wr.heap.size+1;omega) _).setCell (by show _≤wr.heap.size+1;omega) _).setCell (by show _≤wr.heap.size+1;omega) _).setCell (by show _≤wr.heap.size+1;omega) _).setCell (by show _≤wr.heap.size+1;omega) _,by simp only[aBQ];omega⟩)))
      all_goals
       go_wp2_with fail
       go_roundw
       case rel=>
        refine⟨k+1,by omega,by go_num,(hend _ ?_).1,(hend _ ?_).2,by rw[aI2,HP.out,HO.out,x1];rfl⟩
        all_goals first| exact⟨_,rfl⟩| exact⟨_,_,_,_,_,_,_,_,rfl⟩
       case measure=>simp[intOf];omega
     ·rw[x1] at hff
      have hres:Hid (aCI types place ⟨name,key,fields⟩=true):=by
       show _=_
       rw[HT.out,show aCY ⟨name,key,fields⟩ fields.length=false from aBL (k:=k) hlt (by rw[HO.out,x1];rfl)];rfl
      go_wp2_with fail
      go_region_held3 (fun w'=>w'.cell? ⟨w.heap.size,2,none⟩=some (.slice (some ⟨b,off,none⟩) fields.length fc)∧w'.cell? ⟨wr.heap.size,0,none⟩=some (.string (fth fields k).name)) (go_keep)
       (first
        |(
         go_at_call 98
         first
          |(
           refine(hff (wr.alloc (.cells #[.string (fth fields k).name,.string (fth fields k).of,.bool (fth fields k).list,.bool (fth fields k).must,.bool (fth fields k).far,.bool (fth fields k).hidden,.bool (fth fields k).shared,.slice na (fth fields k).needs.length nc] 80)).drew hW1.drew).mono ?_
           rintro e w1 ⟨nm,of,l,m,fr,hi,sh,na3,nl3,nc3,rfl,hb1,-⟩
           have hu:=aAF hb1
           have z1:=hu.size
           simp at z1
           have g2:=(hcell w1 ((hbel.alloc (by omega) _).trans (hu.mono (by simp;omega)))).2
           have g0:w1.cell? ⟨wr.heap.size,0,none⟩=some (.string (fth fields k).name):=(hu.cell (p:=⟨wr.heap.size,0,none⟩) (by show wr.heap.size<_;simp)).trans (aBR _ _ 0 (by simp))
           have n1:w.heap.size≠w1.heap.size:=by omega
           have n2:wr.heap.size≠w1.heap.size:=by omega
           have hfin:Below (w.heap.size+1) (w.alloc (.cells #[.string name,.string key,.slice (some ⟨b,off,none⟩) fields.length fc] 96)) w1:=(hbel.alloc (by omega) _).trans (hu.mono (by simp;omega))
           have hend:∀W,(∃o,W=w1.alloc o)→Below (w.heap.size+1) (w.alloc (.cells #[.string name,.string key,.slice (some ⟨b,off,none⟩) fields.length fc] 96)) W∧w.heap.size<W.heap.size:=fun W ⟨o,e⟩=>by subst e;exact⟨hfin.alloc (by omega) _,by simp;omega⟩)
          |(
           refine(hff ((wr.alloc (.cells #[.string (fth fields k).name,.string (fth fields k).of,.bool (fth fields k).list,.bool (fth fields k).must,.bool (fth fields k).far,.bool (fth fields k).hidden,.bool (fth fields k).shared,.slice na (fth fields k).needs.length nc] 80)).alloc (.cells #[.string ByteArray.empty,.string ByteArray.empty,.bool false,.bool false,.bool false,.bool false,.bool false,.slice none 0 0] 80)).drew hW2.drew).mono ?_
           rintro e w1 ⟨nm,of,l,m,fr,hi,sh,na3,nl3,nc3,rfl,hb1,-⟩
           have hu:=aAF hb1
           have z1:=hu.size
           simp at z1
           have g2:=(hcell w1 (((hbel.alloc (by omega) _).alloc (by simp;omega) _).trans (hu.mono (by simp;omega)))).2
           have g0:w1.cell? ⟨wr.heap.size,0,none⟩=some (.string (fth fields k).name):=(hu.cell (p:=⟨wr.heap.size,0,none⟩) (by show wr.heap.size<_;simp;omega)).trans (((aA2 _ _).cell (p:=⟨wr.heap.size,0,none⟩) (by show wr.heap.size<_;simp)).trans (aBR _ _ 0 (by simp)))
           have hzr:w1.heap[wr.heap.size+1]?=some (.cells #[.string ByteArray.empty,.string ByteArray.empty,.bool false,.bool false,.bool false,.bool false,.bool false,.slice none 0 0] 80 (0,0)):=(hu.block (wr.heap.size+1) (by simp)).trans (by have:=heap_alloc_new (wr.alloc (.cells #[.string (fth fields k).name,.string (fth fields k).of,.bool (fth fields k).list,.bool (fth fields k).must,.bool (fth fields k).far,.bool (fth fields k).hidden,.bool (fth fields k).shared,.slice na (fth fields k).needs.length nc] 80)) (.cells #[.string ByteArray.empty,.string ByteArray.empty,.bool false,.bool false,.bool false,.bool false,.bool false,.slice none 0 0] 80);simpa using this)
           have y0:=(aA1 hzr 0 (by simp)).1
           have y1:=(aA1 hzr 1 (by simp)).1
           have y2:=(aA1 hzr 2 (by simp)).1
           have y3:=(aA1 hzr 3 (by simp)).1
           have y4:=(aA1 hzr 4 (by simp)).1
           have y5:=(aA1 hzr 5 (by simp)).1
           have y6:=(aA1 hzr 6 (by simp)).1
           have y7:=(aA1 hzr 7 (by simp)).1
           have yf:∀i,w1.frozen? ⟨wr.heap.size+1,i,none⟩=false:=fun i=>frozen_of_row w1 _ i _ _ hzr
           have n1:w.heap.size≠wr.heap.size+1:=by omega
           have n3:wr.heap.size+1≠w.heap.size:=by omega
           have n4:wr.heap.size+1≠wr.heap.size:=by omega
           have n2:wr.heap.size≠wr.heap.size+1:=by omega
           have hfin:Below (w.heap.size+1) (w.alloc (.cells #[.string name,.string key,.slice (some ⟨b,off,none⟩) fields.length fc] 96)) w1:=((hbel.alloc (by omega) _).alloc (by simp;omega) _).trans (hu.mono (by simp;omega))
           have hend:∀W,(∃c0 c1 c2 c3 c4 c5 c6 c7,W=((((((((w1.setCell ⟨wr.heap.size+1,0,none⟩ c0).setCell ⟨wr.heap.size+1,1,none⟩ c1).setCell ⟨wr.heap.size+1,2,none⟩ c2).setCell ⟨wr.heap.size+1,3,none⟩ c3).setCell ⟨wr.heap.size+1,4,none⟩ c4).setCell ⟨wr.heap.size+1,5,none⟩ c5).setCell ⟨wr.heap.size+1,6,none⟩ c6).setCell ⟨wr.heap.size+1,7,none⟩ c7))→Below (w.heap.size+1) (w.alloc (.cells #[.string name,.string key,.slice (some ⟨b,off,none⟩) fields.length fc] 96)) W∧w.heap.size<W.heap.size:=fun W ⟨c0,c1,c2,c3,c4,c5,c6,c7,e⟩=>by subst e;exact⟨((((((((hfin).setCell (by show _≤wr.heap.size+1;omega) _).setCell (by show _≤wr.heap.size+1;omega) _).setCell (by show _≤wr.heap.size+1;omega) _).setCell (by show _≤wr.heap.size+1;omega) _).setCell (by show _≤wr.heap.size+1;omega) _).setCell (by show _≤wr.heap.size+1;omega) _).setCell (by show _≤wr.heap.size+1;omega) _).setCell (by show _≤wr.heap.size+1;omega) _,by simp only[aBQ];omega⟩)))
      all_goals
       go_wp2_with fail
       go_ret
       refine⟨aA4 hres.out.symm,(aA2 w _).trans ((hend _ ?_).1.mono (by omega))⟩
       all_goals first| exact⟨_,rfl⟩| exact⟨_,_,_,_,_,_,_,_,rfl⟩
    ·go_wp2_with fail
     go_ret
     have e:k=fields.length:=by omega
     exact⟨aA4 (by rw[HT.out,←e,HP.out];rfl),hbw⟩
end Go.Proofs.YtcebpkeiaiiphaaGreatDoor
