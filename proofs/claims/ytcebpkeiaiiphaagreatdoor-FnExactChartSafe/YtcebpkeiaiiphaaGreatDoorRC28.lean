import Derived.Test.YtcebpkeiaiiphaaGreatDoorRC26
set_option linter.unusedSimpArgs false
set_option linter.unusedVariables false
namespace Go.Proofs.YtcebpkeiaiiphaaGreatDoor
open Go.RowKit
theorem aRH(q:Pt)(s:ByteArray)(f:F):aH2 f (aA5 q s)=(getB q s f.name&&(!(getF q s f.name).hidden&&((getF q s f.name).of.toList==f.of.toList&&(getF q s f.name).list==f.list))):=by
 unfold aH2 getB getF;by_cases h:0<=aAR q s
 ·simp only[h,if_true,decide_true,Bool.true_and]
 ·have ht:aA5 q s=T.zero:=by rw[aA5,if_neg h]
  have hx:aAB (aA5 q s) f.name=-1:=by rw[ht];rfl
  simp[h,hx]
theorem aPP{w w':World}{base e sz n:Nat}{v:Value}{xs:List Value}(h:w.ownsRow base e sz v n xs)(hb:∀g,v.ownBlock=some g->w'.heap[g]?=w.heap[g]?):w'.ownsRow base e sz v n xs:=by
 refine⟨h.1,h.2.imp id ?_⟩;rintro⟨g,cap,cur,hv,hg,hh,hr⟩;exact⟨g,cap,cur,hv,hg,(hb g (by rw[hv];rfl)).trans hh,hr⟩
theorem aQD{p:Pt}{s f:ByteArray}{w:World}{B:Nat}{v:Value}(h:Calls Tryz.prog 38 #[v,.string s,.string f] w fun e w'=>∃(nm of:ByteArray) (l m fr hi sh:Bool) (na:Option Addr) (nc:Nat),
   e=.returned (.tuple #[.agg #[.string nm,.string of,.bool l,.bool m,.bool fr,.bool hi,.bool sh,.slice na (getF p s f).needs.length nc],.bool (getB p s f)])∧Below w.heap.size w w'∧
   FRep w' (·<B) (getF p s f) (.agg #[.string nm,.string of,.bool l,.bool m,.bool fr,.bool hi,.bool sh,.slice na (getF p s f).needs.length nc])):
  Calls Tryz.prog 38 #[v,.string s,.string f] w fun e w'=>∃(na:Option Addr) (nc:Nat),
   e=.returned (.tuple #[.agg #[.string (getF p s f).name,.string (getF p s f).of,.bool (getF p s f).list,.bool (getF p s f).must,.bool (getF p s f).far,.bool (getF p s f).hidden,.bool (getF p s f).shared,.slice na (getF p s f).needs.length nc],.bool (getB p s f)])∧Below w.heap.size w w':=by
 refine h.mono ?_;rintro e w' ⟨nm,of,l,m,fr,hi,sh,na,nc,rfl,hb,na',nc',e,-⟩;exact⟨na',nc',by rw[e],hb⟩
set_option maxRecDepth 20000 in
set_option maxHeartbeats 6400000 in
theorem aIY(p q:Pt)(w:World)(B:Nat)(v u:Value)(hP:PRep w (·<B) p v)(hQ:PRep w (·<B) q u)(hB:B<=w.heap.size)(hz:szP p<=1048576)(hzq:szP q<=1048576):
  Calls Tryz.prog 44 #[v,u] w fun e w'=>aCA w w' (aD4 p q) e:=by
 have hP':=hP;have hQ':=hQ;have HL:Hid (aD4 p q=if(okP p&&okP q)=true then brT p q p.types.length else[]):=rfl
 have HS:Hid (∀i,∀x∈ brT p q i,x.size<=2097153):=aIK p q hz;have HN:Hid (∀i,i<=p.types.length->(brT p q i).length<=1048576):=fun i hi=>by
  have h1:=aJJ p q i;have h2:=aD8 p.types i _ hi;have h3:szP p=p.name.size+(p.types.length+aB1 p.types p.types.length):=rfl;omega
 have HBT:Hid (∀i k,(aF4 (tth p.types i) k).size<=2097153):=aGK p hz;obtain⟨pname,types⟩:=p;obtain⟨ta,tc,rfl,hK,hnc,hpn⟩:=hP;obtain⟨qname,qtypes⟩:=q;obtain⟨qa,qc,rfl,hKq,hncq,hqn⟩:=hQ;simp only at hK hnc hpn hP' hKq hncq hqn hQ';have h56:=hK.1;obtain⟨X,hXe⟩:∃X,X=((w.alloc (.cells #[.string pname,.slice ta types.length tc] 46)).alloc (.cells #[.string qname,.slice qa qtypes.length qc] 46)):=⟨_,rfl⟩;have PC:∀W,Below (w.heap.size+1+1) X W->W.cell? ⟨w.heap.size,0,none⟩=some (.string pname)∧W.cell? ⟨w.heap.size,1,none⟩=some (.slice ta types.length tc)∧W.cell? ⟨w.heap.size+1,0,none⟩=some (.string qname)∧W.cell? ⟨w.heap.size+1,1,none⟩=some (.slice qa qtypes.length qc)∧Below w.heap.size w W∧w.heap.size+1<W.heap.size:=fun W h=>by
  subst hXe;have hz:=h.size;simp at hz;have a:∀i (hi:i<2),W.cell? ⟨w.heap.size,i,none⟩=some #[Value.string pname,.slice ta types.length tc][i]:=fun i hi=>(h.cell (p:=⟨w.heap.size,i,none⟩) (by show w.heap.size<_;omega)).trans (((aA2 _ _).cell (p:=⟨w.heap.size,i,none⟩) (by show w.heap.size<_;simp)).trans (aBC _ _ i (by simpa using hi)))
  have c:∀i (hi:i<2),W.cell? ⟨w.heap.size+1,i,none⟩=some #[Value.string qname,.slice qa qtypes.length qc][i]:=fun i hi=>(h.cell (p:=⟨w.heap.size+1,i,none⟩) (by show w.heap.size+1<_;omega)).trans (by
   have:=aBC (w:=w.alloc (.cells #[.string pname,.slice ta types.length tc] 46)) #[Value.string qname,.slice qa qtypes.length qc] 46 i (by simpa using hi)
   rw[show(w.alloc (.cells #[.string pname,.slice ta types.length tc] 46)).heap.size=w.heap.size+1 by simp] at this
   exact this)
  exact⟨a 0 (by omega),a 1 (by omega),c 0 (by omega),c 1 (by omega),(aA6 w _ _).trans (h.mono (by omega)),by omega⟩
 have hT0:Below (w.heap.size+1+1) X ((w.alloc (.cells #[.string pname,.slice ta types.length tc] 46)).alloc (.cells #[.string qname,.slice qa qtypes.length qc] 46)):=by rw[hXe];exact Below.refl _ _
 clear hXe;have hBW:=fun W (h:Below (w.heap.size+1+1) X W)=>show B<=W.heap.size by have:=(PC W h).2.2.2.2.2;omega
 have hT3:Below (w.heap.size+1+1) X (((w.alloc (.cells #[.string pname,.slice ta types.length tc] 46)).alloc (.cells #[.string qname,.slice qa qtypes.length qc] 46)).alloc (.cells #[] 9)):=hT0.alloc (by simp) _
 have hO3:Hid ((((w.alloc (.cells #[.string pname,.slice ta types.length tc] 46)).alloc (.cells #[.string qname,.slice qa qtypes.length qc] 46)).alloc (.cells #[] 9)).ownsRow (w.heap.size+1+1) 9 1 (.slice (some ⟨w.heap.size+1+1,0,none⟩) 0 0) 0 []):=by
  have hx2:(((w.alloc (.cells #[.string pname,.slice ta types.length tc] 46)).alloc (.cells #[.string qname,.slice qa qtypes.length qc] 46)).alloc (.cells #[] 9)).heap[w.heap.size+1+1]?=some (.cells #[] 9 (0,0)):=by
   have:=heap_alloc_new ((w.alloc (.cells #[.string pname,.slice ta types.length tc] 46)).alloc (.cells #[.string qname,.slice qa qtypes.length qc] 46)) (.cells #[] 9);simpa using this
  exact⟨rfl,.inr ⟨_,0,#[],rfl,Nat.le_refl _,hx2,Nat.le_refl _,by simp,rfl,rfl⟩⟩
 have hC:=fun W h=>aD9 ⟨pname,types⟩ W B _ (hP'.under ((PC W h).2.2.2.2.1.mono hB)) (hBW W h) hz;have hD:=fun W h=>aD9 ⟨qname,qtypes⟩ W B _ (hQ'.under ((PC W h).2.2.2.2.1.mono hB)) (hBW W h) hzq;have hG:=fun W h s f=>aMM ⟨qname,qtypes⟩ s f W B _ (hQ'.under ((PC W h).2.2.2.2.1.mono hB)) (hBW W h);have hok:=aE9 ⟨pname,types⟩;have hok2:=aE9 ⟨qname,qtypes⟩;generalize aCQ ⟨pname,types⟩=pf at hC hok;generalize aCQ ⟨qname,qtypes⟩=pg at hD hok2;obtain⟨pa,pc⟩:=pf;obtain⟨ga,gc⟩:=pg;simp only at hC hok hD hok2;have hfld:=aFQ (.int .i64 pa) (.int .i64 pc);have hfld2:=aFQ (.int .i64 ga) (.int .i64 gc);obtain⟨p0,p1,q0,q1,hw3,hz3⟩:=PC _ hT3;cases ho:okP ⟨pname,types⟩
 ·have HA:Hid (aD4 ⟨pname,types⟩ ⟨qname,qtypes⟩=[]):=by show _=_;rw[HL.out,ho];rfl
  have hne:(pc !=0)=true:=by simp;intro e;rw[hok.1 e] at ho;cases ho
  clear hok hok2 hG hD;go_enter Tryz.func44,Tryz.ntmps44
  go_wp2_with fail
  refine(hC _ hT3).mono ?_;rintro e w1 ⟨rfl,hb1⟩;have hT1:=hT3.trans (hb1.mono (by simp))
  go_wp2_with fail
  go_ret
  rw[HA.out];exact aCA.own (PC w1 hT1).2.2.2.2.1 (by omega) (aBI hO3.out hb1) (by simp) (by simp)
 have hp0:pc=0:=hok.2 ho;subst hp0;cases ho2:okP ⟨qname,qtypes⟩
 ·have HA:Hid (aD4 ⟨pname,types⟩ ⟨qname,qtypes⟩=[]):=by show _=_;rw[HL.out,ho2];simp
  have hne:(gc !=0)=true:=by simp;intro e;rw[hok2.1 e] at ho2;cases ho2
  clear hok hok2 hG;go_enter Tryz.func44,Tryz.ntmps44
  go_wp2_with fail
  refine(hC _ hT3).mono ?_;rintro e w1 ⟨rfl,hb1⟩;have hT1:=hT3.trans (hb1.mono (by simp))
  obtain⟨r0,r1,s0,s1,hw1,hz1⟩:=PC w1 hT1;go_wp2_with fail
  refine(hD w1 hT1).mono ?_;rintro e w2 ⟨rfl,hb2⟩;have hT2:=hT1.trans (hb2.mono (by omega))
  go_wp2_with fail
  go_ret
  rw[HA.out];exact aCA.own (PC w2 hT2).2.2.2.2.1 (by omega) (aBI (aBI hO3.out hb1) hb2) (by simp) (by simp)
 have hg0:gc=0:=hok2.2 ho2;subst hg0;have HA:Hid (aD4 ⟨pname,types⟩ ⟨qname,qtypes⟩=brT ⟨pname,types⟩ ⟨qname,qtypes⟩ types.length):=by show _=_;rw[HL.out,ho,ho2];rfl
 clear hok hok2 ho ho2 HL;go_enter Tryz.func44,Tryz.ntmps44
 go_wp2_with fail
 refine(hC _ hT3).mono ?_;rintro e w1 ⟨rfl,hb1⟩;have hT1:=hT3.trans (hb1.mono (by simp))
 have hO1:Hid (w1.ownsRow (w.heap.size+1+1) 9 1 (.slice (some ⟨w.heap.size+1+1,0,none⟩) 0 0) 0 []):=aBI hO3.out hb1;clear hC hb1 hT3 hO3 hT0 p0 p1 q0 q1 hw3 hz3;obtain⟨p0,p1,q0,q1,hw1,hz1⟩:=PC w1 hT1;go_wp2_with fail
 refine(hD w1 hT1).mono ?_;rintro e w2 ⟨rfl,hb2⟩;have hT2:=hT1.trans (hb2.mono (by omega))
 have hO2:Hid (w2.ownsRow (w.heap.size+1+1) 9 1 (.slice (some ⟨w.heap.size+1+1,0,none⟩) 0 0) 0 []):=aBI hO1.out hb2;clear hD hb2 hT1 hO1 p0 p1 q0 q1 hw1 hz1;go_wp2_with fail
 clear hfld hfld2;go_loopw [5,6] (fun br i wr=>∃(k:Nat) (v:Value),k<=types.length∧i=.int .i64 k∧v=br∧Hid (wr.ownsRow (w.heap.size+1+1) 9 1 v (brT ⟨pname,types⟩ ⟨qname,qtypes⟩ k).length ((brT ⟨pname,types⟩ ⟨qname,qtypes⟩ k).map Value.string))∧Below (w.heap.size+1+1) X wr) (fun _ i _=>types.length- (intOf i).toNat)
 case atStart=>exact⟨0,_,Nat.zero_le _,rfl,rfl,hO2,hT2⟩
 case round=>
  clear hT2 hO2;obtain⟨k,v,hk,rfl,rfl,HO,hT3⟩:=hrel;obtain⟨w0,rfl⟩:∃x,x=wr:=⟨wr,rfl⟩;obtain⟨p0,p1,q0,q1,hw0,hz0⟩:=PC w0 hT3;by_cases hlt:k<types.length
  ·obtain⟨b,off,fa,fc,rfl,htr,hcs⟩:=hK.at hB k hlt;obtain⟨fa',fc',e0,e1,e2,hfs,hffc,hs1,hs2⟩:=htr.parts;simp only[Value.slice.injEq] at e2;obtain⟨rfl,-,rfl⟩:=e2;have hf64:=hfs.1;have hki:(k:Int)<(types.length:Int):=by omega
   clear e0 e1;have HL1:Hid (∀j,j<=(tth types k).fields.length->(brT ⟨pname,types⟩ ⟨qname,qtypes⟩ k++brF (tth types k) (aA5 ⟨qname,qtypes⟩ (tth types k).name) j).length<=1048576):=fun j hj=>by
    have h1:=aJJ ⟨pname,types⟩ ⟨qname,qtypes⟩ k;have h2:=aD8 types (k+1) _ hlt;rw[aB8] at h2;have h3:szP ⟨pname,types⟩=pname.size+(types.length+aB1 types types.length):=rfl;have h4:=aLJ (tth types k) (aA5 ⟨qname,qtypes⟩ (tth types k).name) j;have h5:szT (tth types k)=(tth types k).name.size+(tth types k).key.size+((tth types k).fields.length+aBE (tth types k).fields (tth types k).fields.length):=rfl;have h6:(brT ⟨pname,types⟩ ⟨qname,qtypes⟩ k).length<=aB1 types k:=h1;rw[List.length_append];omega
   have HL2:Hid (brT ⟨pname,types⟩ ⟨qname,qtypes⟩ (k+1)=brT ⟨pname,types⟩ ⟨qname,qtypes⟩ k++brF (tth types k) (aA5 ⟨qname,qtypes⟩ (tth types k).name) (tth types k).fields.length):=rfl;generalize brT ⟨pname,types⟩ ⟨qname,qtypes⟩ k=L0 at HO HL1 HL2;go_wp2_with fail
   go_loopw [5,7] (fun br i wr=>∃(j:Nat) (v:Value),j<=(tth types k).fields.length∧i=.int .i64 j∧v=br∧Hid (wr.ownsRow (w.heap.size+1+1) 9 1 v (L0++brF (tth types k) (aA5 ⟨qname,qtypes⟩ (tth types k).name) j).length ((L0++brF (tth types k) (aA5 ⟨qname,qtypes⟩ (tth types k).name) j).map Value.string))∧Below (w.heap.size+1+1) X wr) (fun _ i _=>(tth types k).fields.length- (intOf i).toNat)
   case atStart=>exact⟨0,_,Nat.zero_le _,rfl,rfl,by simpa[brF] using HO,hT3⟩
   case round=>
    clear HO hT3 p0 p1 q0 q1 hw0 hz0;obtain⟨j,v,hj,rfl,rfl,HO,hT6⟩:=hrel;obtain⟨w6,rfl⟩:∃x,x=wr:=⟨wr,rfl⟩;obtain⟨p0,p1,q0,q1,hw6,hz6⟩:=PC w6 hT6;obtain⟨c0,c1,c2⟩:=hcs w6 hw6;by_cases hjt:j<(tth types k).fields.length
    ·obtain⟨fb,foff,na,nc,rfl,hfr,hcf⟩:=hfs.at hB j hjt;obtain⟨g0,g1,g2,g3,g4,g5,g6,g7⟩:=hcf w6 hw6;have hji:(j:Int)<((tth types k).fields.length:Int):=by omega
     have HG0:=fun W h=>aQD (hG W h (tth types k).name (fth (tth types k).fields j).name);have HST:Hid (aH2 (fth (tth types k).fields j) (aA5 ⟨qname,qtypes⟩ (tth types k).name)=(getB ⟨qname,qtypes⟩ (tth types k).name (fth (tth types k).fields j).name&&(!(getF ⟨qname,qtypes⟩ (tth types k).name (fth (tth types k).fields j).name).hidden&&((getF ⟨qname,qtypes⟩ (tth types k).name (fth (tth types k).fields j).name).of.toList==(fth (tth types k).fields j).of.toList&&(getF ⟨qname,qtypes⟩ (tth types k).name (fth (tth types k).fields j).name).list==(fth (tth types k).fields j).list)))):=aRH _ _ _;generalize getF ⟨qname,qtypes⟩ (tth types k).name (fth (tth types k).fields j).name=gf at HG0 HST;generalize getB ⟨qname,qtypes⟩ (tth types k).name (fth (tth types k).fields j).name=gb at HG0 HST;go_wp2_with fail
     obtain⟨w7,hw7⟩:∃x,x=w6.alloc (.cells #[.string (fth (tth types k).fields j).name,.string (fth (tth types k).fields j).of,.bool (fth (tth types k).fields j).list,.bool (fth (tth types k).fields j).must,.bool (fth (tth types k).fields j).far,.bool (fth (tth types k).fields j).hidden,.bool (fth (tth types k).fields j).shared,.slice na (fth (tth types k).fields j).needs.length nc] 80):=⟨_,rfl⟩;rw[<-hw7];have b7:∀i (hi:i<8),w7.cell? ⟨w6.heap.size,i,none⟩=some #[Value.string (fth (tth types k).fields j).name,.string (fth (tth types k).fields j).of,.bool (fth (tth types k).fields j).list,.bool (fth (tth types k).fields j).must,.bool (fth (tth types k).fields j).far,.bool (fth (tth types k).fields j).hidden,.bool (fth (tth types k).fields j).shared,.slice na (fth (tth types k).fields j).needs.length nc][i]:=fun i hi=>by rw[hw7];exact aBC _ _ i (by simpa using hi)
     have b70:=b7 0 (by omega)
     have b71:=b7 1 (by omega)
     have b72:=b7 2 (by omega)
     have b75:=b7 5 (by omega)
     have hs7:Hid (w7.heap.size=w6.heap.size+1):=by show _=_;rw[hw7];simp
     have hT7:Below (w.heap.size+1+1) X w7:=by rw[hw7];exact hT6.alloc (by omega) _
     have HO7:Hid (w7.ownsRow (w.heap.size+1+1) 9 1 v (L0++brF (tth types k) (aA5 ⟨qname,qtypes⟩ (tth types k).name) j).length ((L0++brF (tth types k) (aA5 ⟨qname,qtypes⟩ (tth types k).name) j).map Value.string)):=by rw[hw7];exact aBI HO.out (aA2 w6 _)
     have hap:Hid (v.ownBlock≠some w6.heap.size):=by
      show _≠_;intro e;have:=aDW HO.out _ e;omega
     clear hw7 p0 p1 q0 q1 c0 c1 c2 g0 g1 g2 g3 g4 g5 g6 g7 HO b7;obtain⟨p0,p1,q0,q1,hbw7,hz7⟩:=PC w7 hT7;obtain⟨c0,c1,c2⟩:=hcs w7 hbw7;simp at b70 b71 b72 b75;have n1:=World.new_ne w7 _ p1;have n2:=World.new_ne w7 _ q0;have n3:=World.new_ne w7 _ q1;have n4:=World.new_ne w7 _ c0;have n5:=World.new_ne w7 _ b70;go_region_held3 (fun w'=>w'.cell? ⟨w.heap.size,1,none⟩=some (.slice (some ⟨b,off,none⟩) types.length tc)∧w'.cell? ⟨w.heap.size+1,0,none⟩=some (.string qname)∧w'.cell? ⟨w.heap.size+1,1,none⟩=some (.slice qa qtypes.length qc)∧w'.cell? ⟨b,off+k*3,none⟩=some (.string (tth types k).name)∧w'.cell? ⟨w6.heap.size,0,none⟩=some (.string (fth (tth types k).fields j).name)) (go_keep)
      (first
       |(
        go_at_call 38
        refine(HG0 _ hT7.drew).mono ?_;rintro e w8 ⟨na8,nc8,rfl,hb8⟩;have hb8':Below w7.heap.size w7 w8:=aAF hb8;have hT8:=hT7.trans (hb8'.mono (by omega))
        have HO8:Hid (w8.ownsRow (w.heap.size+1+1) 9 1 v (L0++brF (tth types k) (aA5 ⟨qname,qtypes⟩ (tth types k).name) j).length ((L0++brF (tth types k) (aA5 ⟨qname,qtypes⟩ (tth types k).name) j).map Value.string)):=aBI HO7.out hb8';have b8:=fun i=>hb8'.cell (p:=⟨w6.heap.size,i,none⟩) (by show w6.heap.size<w7.heap.size;have:=hs7.out;omega)
        have b80:=(b8 0).trans b70;have b81:=(b8 1).trans b71;have b82:=(b8 2).trans b72;have b85:=(b8 5).trans b75;have c80:=(hcs w8 (PC w8 hT8).2.2.2.2.1).1;obtain⟨p80,p81,q80,q81,hbw8,hz8⟩:=PC w8 hT8;have n81:=World.new_ne w8 _ p81;have n82:=World.new_ne w8 _ q80;have n83:=World.new_ne w8 _ q81;have n84:=World.new_ne w8 _ c80;have n85:=World.new_ne w8 _ b80)
       |(
        go_at_call 38
        refine(HG0 _ (hT7.alloc (by omega) _).drew).mono ?_
        rintro e w8 ⟨na8,nc8,rfl,hb8⟩;have hbA:=aAF hb8;have hb8':Below w7.heap.size w7 w8:=(aA2 w7 _).trans (hbA.mono (by simp))
        have hbx:w8.heap[w7.heap.size]?=some (.cells #[.string ⟨#[]⟩,.string ⟨#[]⟩,.bool false,.bool false,.bool false,.bool false,.bool false,.slice none 0 0] 80 (0,0)):=(hbA.block w7.heap.size (by simp)).trans (heap_alloc_new w7 _)
        obtain⟨a0,f0⟩:=aA1 hbx 0 (by simp)
        obtain⟨a1,f1⟩:=aA1 hbx 1 (by simp)
        obtain⟨a2,f2⟩:=aA1 hbx 2 (by simp)
        obtain⟨a3,f3⟩:=aA1 hbx 3 (by simp)
        obtain⟨a4,f4⟩:=aA1 hbx 4 (by simp)
        obtain⟨a5,f5⟩:=aA1 hbx 5 (by simp)
        obtain⟨a6,f6⟩:=aA1 hbx 6 (by simp)
        obtain⟨a7,f7⟩:=aA1 hbx 7 (by simp)
        simp at a0 a1 a2 a3 a4 a5 a6 a7;have hT8:=hT7.trans (hb8'.mono (by omega))
        have HO8:Hid (w8.ownsRow (w.heap.size+1+1) 9 1 v (L0++brF (tth types k) (aA5 ⟨qname,qtypes⟩ (tth types k).name) j).length ((L0++brF (tth types k) (aA5 ⟨qname,qtypes⟩ (tth types k).name) j).map Value.string)):=aBI HO7.out hb8';have b8:=fun i=>hb8'.cell (p:=⟨w6.heap.size,i,none⟩) (by show w6.heap.size<w7.heap.size;have:=hs7.out;omega)
        have b80:=(b8 0).trans b70;have b81:=(b8 1).trans b71;have b82:=(b8 2).trans b72;have b85:=(b8 5).trans b75;have c80:=(hcs w8 (PC w8 hT8).2.2.2.2.1).1;obtain⟨p80,p81,q80,q81,hbw8,hz8⟩:=PC w8 hT8;have n81:=World.new_ne w8 _ p81;have n82:=World.new_ne w8 _ q80;have n83:=World.new_ne w8 _ q81;have n84:=World.new_ne w8 _ c80;have n85:=World.new_ne w8 _ b80))
     obtain⟨w9,hw9⟩:∃x,x=w8.alloc (.cells #[.string gf.name,.string gf.of,.bool gf.list,.bool gf.must,.bool gf.far,.bool gf.hidden,.bool gf.shared,.slice na8 gf.needs.length nc8] 80):=⟨_,rfl⟩;have d:∀i (hi:i<8),w9.cell? ⟨w8.heap.size,i,none⟩=some #[Value.string gf.name,.string gf.of,.bool gf.list,.bool gf.must,.bool gf.far,.bool gf.hidden,.bool gf.shared,.slice na8 gf.needs.length nc8][i]:=fun i hi=>by rw[hw9];exact aBC _ _ i (by simpa using hi)
     have d1:=d 1 (by omega)
     have d2:=d 2 (by omega)
     have d5:=d 5 (by omega)
     have hT9:Below (w.heap.size+1+1) X w9:=by rw[hw9];exact hT8.alloc (by omega) _
     have HO9:Hid (w9.ownsRow (w.heap.size+1+1) 9 1 v (L0++brF (tth types k) (aA5 ⟨qname,qtypes⟩ (tth types k).name) j).length ((L0++brF (tth types k) (aA5 ⟨qname,qtypes⟩ (tth types k).name) j).map Value.string)):=by rw[hw9];exact aBI HO8.out (aA2 w8 _)
     have hz9:=hs7.out;have hz8':=hb8'.size;have m:∀i u,w8.cell? ⟨w6.heap.size,i,none⟩=some u->w9.cell? ⟨w6.heap.size,i,none⟩=some u:=fun i u h=>by rw[hw9];exact((aA2 w8 _).cell (p:=⟨w6.heap.size,i,none⟩) (by show w6.heap.size<w8.heap.size;omega)).trans h
     have m0:=m 0 _ b80;have m1:=m 1 _ b81;have m2:=m 2 _ b82;have m5:=m 5 _ b85;have hzw:w6.heap.size+1<w9.heap.size:=by rw[hw9];simp;omega
     simp at d1 d2 d5;rw[<-hw9];clear hw9 d m;generalize w8.heap.size=N9 at*;clear n1 n2 n3 n4 n5 n81 n82 n83 n84 n85 hb8 hb8' hT8 HO8 b8 b80 b81 b82 b85 c80 p80 p81 q80 q81 hbw8 hz8 hz9 hz8' p0 p1 q0 q1 hbw7 hz7 c0 c1 c2 hT7 HO7 b70 b71 b72 b75 hs7 HG0 hT6 hw6 hz6
     rotate_left
     obtain⟨w9,hw9⟩:∃x,x=(((((((w8.setCell ⟨w7.heap.size,0,none⟩ (.string gf.name)).setCell ⟨w7.heap.size,1,none⟩ (.string gf.of)).setCell ⟨w7.heap.size,2,none⟩ (.bool gf.list)).setCell ⟨w7.heap.size,3,none⟩ (.bool gf.must)).setCell ⟨w7.heap.size,4,none⟩ (.bool gf.far)).setCell ⟨w7.heap.size,5,none⟩ (.bool gf.hidden)).setCell ⟨w7.heap.size,6,none⟩ (.bool gf.shared)).setCell ⟨w7.heap.size,7,none⟩ (.slice na8 gf.needs.length nc8):=⟨_,rfl⟩;obtain⟨d0,d1,d2,d3,d4,d5,d6,d7⟩:=aBQ hbx rfl (.string gf.name) (.string gf.of) (.bool gf.list) (.bool gf.must) (.bool gf.far) (.bool gf.hidden) (.bool gf.shared) (.slice na8 gf.needs.length nc8) w9 (by rw[hw9])
     have hT9:Below (w.heap.size+1+1) X w9:=by rw[hw9];exact aAH hT8 (by omega) _ _ _ _ _ _ _ _
     have HO9:Hid (w9.ownsRow (w.heap.size+1+1) 9 1 v (L0++brF (tth types k) (aA5 ⟨qname,qtypes⟩ (tth types k).name) j).length ((L0++brF (tth types k) (aA5 ⟨qname,qtypes⟩ (tth types k).name) j).map Value.string)):=aPP HO8.out fun g hg=>by
      rw[hw9];have:=aDW HO7.out g hg;exact aCZ (by omega) _ _ _ _ _ _ _ _ _
     have hz9:=hs7.out;have hz8':=hbA.size;have m:∀i u,w8.cell? ⟨w6.heap.size,i,none⟩=some u->w9.cell? ⟨w6.heap.size,i,none⟩=some u:=fun i u h=>by rw[hw9];exact((aAH (Below.refl w7.heap.size w8) (Nat.le_refl _) _ _ _ _ _ _ _ _).cell (p:=⟨w6.heap.size,i,none⟩) (by show w6.heap.size<w7.heap.size;omega)).trans h
     have m0:=m 0 _ b80;have m1:=m 1 _ b81;have m2:=m 2 _ b82;have m5:=m 5 _ b85;have hzw:w6.heap.size+1<w9.heap.size:=by rw[hw9,aJ3];simp at hz8';omega
     rw[<-hw9];clear hw9 m d0 d3 d4 d6 d7 a0 a1 a2 a3 a4 a5 a6 a7 f0 f1 f2 f3 f4 f5 f6 f7 hbx hbA;generalize w7.heap.size=N9 at*;clear n1 n2 n3 n4 n5 n81 n82 n83 n84 n85 hb8 hb8' hT8 HO8 b8 b80 b81 b82 b85 c80 p80 p81 q80 q81 hbw8 hz8 hz9 hz8' p0 p1 q0 q1 hbw7 hz7 c0 c1 c2 hT7 HO7 b70 b71 b72 b75 hs7 HG0 hT6 hw6 hz6
     rotate_left
     all_goals
      have HB1:Hid (brF (tth types k) (aA5 ⟨qname,qtypes⟩ (tth types k).name) (j+1)=brF (tth types k) (aA5 ⟨qname,qtypes⟩ (tth types k).name) j++(if(!(fth (tth types k).fields j).hidden&&!aH2 (fth (tth types k).fields j) (aA5 ⟨qname,qtypes⟩ (tth types k).name))=true then[aF4 (tth types k) j] else[])):=rfl
      rw[HST.out] at HB1;obtain⟨p0,p1,q0,q1,hw9,hz9⟩:=PC w9 hT9;obtain⟨c0,c1,c2⟩:=hcs w9 hw9;cases yh:(fth (tth types k).fields j).hidden
      rotate_left
      ·have HB2:Hid (brF (tth types k) (aA5 ⟨qname,qtypes⟩ (tth types k).name) (j+1)=brF (tth types k) (aA5 ⟨qname,qtypes⟩ (tth types k).name) j):=by show _=_;rw[HB1.out,yh];simp
       rw[yh] at m5;go_wp2_with fail
       go_roundw
       case rel=>exact⟨j+1,v,by omega,by go_num,rfl,by rw[HB2.out];exact HO9,hT9⟩
       case measure=>simp[intOf];omega
      rw[yh] at m5 HB1;by_cases hs:(gb&&(!gf.hidden&&(gf.of.toList==(fth (tth types k).fields j).of.toList&&gf.list==(fth (tth types k).fields j).list)))=true
      ·have HB2:Hid (brF (tth types k) (aA5 ⟨qname,qtypes⟩ (tth types k).name) (j+1)=brF (tth types k) (aA5 ⟨qname,qtypes⟩ (tth types k).name) j):=by show _=_;rw[HB1.out,hs];simp
       simp at hs;obtain⟨h1,h2,h3,h4⟩:=hs;subst h1;rw[h2] at d5;clear HB1 HST;go_wp2_with fail
       go_roundw
       case rel=>exact⟨j+1,v,by omega,by go_num,rfl,by rw[HB2.out];exact HO9,hT9⟩
       case measure=>simp[intOf];omega
      have HB2:Hid (brF (tth types k) (aA5 ⟨qname,qtypes⟩ (tth types k).name) (j+1)=brF (tth types k) (aA5 ⟨qname,qtypes⟩ (tth types k).name) j++[aF4 (tth types k) j]):=by show _=_;rw[HB1.out,Bool.eq_false_iff.2 hs];rfl
      have hs':gb=false∨(gb=true∧gf.hidden=true)∨(gb=true∧gf.hidden=false∧¬gf.of.toList=(fth (tth types k).fields j).of.toList)∨(gb=true∧gf.hidden=false∧gf.of.toList=(fth (tth types k).fields j).of.toList∧(!gf.list==(fth (tth types k).fields j).list)=true):=by
       cases gb
       ·exact .inl rfl
       cases hh:gf.hidden
       ·by_cases ho:gf.of.toList=(fth (tth types k).fields j).of.toList
        ·refine .inr (.inr (.inr ⟨rfl,rfl,ho,?_⟩));rw[hh,ho] at hs;simpa using hs
        ·exact .inr (.inr (.inl ⟨rfl,rfl,ho⟩))
       ·exact .inr (.inl ⟨rfl,rfl⟩)
      clear HB1 HST hs;have hlen:=HL1.out j hj;have hbt:=HBT.out k j;have hbe:(aF4 (tth types k) j).size=(tth types k).name.size+1+(fth (tth types k).fields j).name.size:=by rw[aF4,ByteArray.size_append,ByteArray.size_append];rfl
      have hb1:(tth types k).name.size+1<=9223372036854775807:=by omega
      have hb2:(tth types k).name.size+1+(fth (tth types k).fields j).name.size<=9223372036854775807:=by omega
      have hb3:¬(9223372036854775807<(tth types k).name.size+1):=by omega
      have hb4:¬(9223372036854775807<(tth types k).name.size+1+(fth (tth types k).fields j).name.size):=by omega
      clear hbe hbt;obtain⟨i0,hi,hz0',hz1',hz2'⟩:=info_parts aMV;have HOS:Hid ((w9.alloc (.cells #[.string ((tth types k).name++(⟨#[46]⟩:ByteArray)++(fth (tth types k).fields j).name)] 9)).drew.ownsRow (w.heap.size+1+1) 9 1 v (L0++brF (tth types k) (aA5 ⟨qname,qtypes⟩ (tth types k).name) j).length ((L0++brF (tth types k) (aA5 ⟨qname,qtypes⟩ (tth types k).name) j).map Value.string)):=aBI HO9.out (aA2 w9 _).drew;have sS:Hid ((w9.alloc (.cells #[.string ((tth types k).name++(⟨#[46]⟩:ByteArray)++(fth (tth types k).fields j).name)] 9)).drew.heap.size=w9.heap.size+1):=by show _=_;simp
      have HNB:Hid ((w9.alloc (.cells #[.string ((tth types k).name++(⟨#[46]⟩:ByteArray)++(fth (tth types k).fields j).name)] 9)).drew.heap[w9.heap.size]?=some (.cells #[.string ((tth types k).name++(⟨#[46]⟩:ByteArray)++(fth (tth types k).fields j).name)] 9 (0,0))):=heap_alloc_new w9 _;have LAW:Hid (∀(ops:Array Oper) (o:Oper) (a:Act) (K:Act->World->Prop) (Q:Exit->Act->World->Prop) (E:Prop),o.guard=none->o.op=.call { callee:=.builtin .append,args:=#[.tmp 88,.tmp 99],argTypes:=#[33,33] }->a.eval (.tmp 88)=v->a.eval (.tmp 99)=.slice (some ⟨w9.heap.size,0,none⟩) 1 1->
        (∀g cap w',w'.ownsRow (w.heap.size+1+1) 9 1 (.slice (some ⟨g,0,none⟩) ((L0++brF (tth types k) (aA5 ⟨qname,qtypes⟩ (tth types k).name) j).length+1) cap) ((L0++brF (tth types k) (aA5 ⟨qname,qtypes⟩ (tth types k).name) j).length+1) ((L0++brF (tth types k) (aA5 ⟨qname,qtypes⟩ (tth types k).name) j).map Value.string++[.string ((tth types k).name++(⟨#[46]⟩:ByteArray)++(fth (tth types k).fields j).name)])->(w9.alloc (.cells #[.string ((tth types k).name++(⟨#[46]⟩:ByteArray)++(fth (tth types k).fields j).name)] 9)).drew.grownBy w' v.ownBlock->K (a.put o.dst (.slice (some ⟨g,0,none⟩) ((L0++brF (tth types k) (aA5 ⟨qname,qtypes⟩ (tth types k).name) j).length+1) cap)) w')->
        if Region.wanted o (yielded ops a.tmps)=true then Oper.wp Tryz.prog o a (w9.alloc (.cells #[.string ((tth types k).name++(⟨#[46]⟩:ByteArray)++(fth (tth types k).fields j).name)] 9)).drew K Q else E):=fun ops o a K Q E hgd ho hs hx h=>
       step_append_lies (P:=Tryz.prog) (ops:=ops) (o:=o) (a:=a) (K:=K) (Q:=Q) (E:=E) (w9.alloc (.cells #[.string ((tth types k).name++(⟨#[46]⟩:ByteArray)++(fth (tth types k).fields j).name)] 9)).drew hgd (.tmp 88) (.tmp 99) 33 ho (w.heap.size+1+1) 9 i0 (.string ByteArray.empty) 1 16 Tryz.underlying33 hi hz0' hz1' hz2' rfl (by decide) v (L0++brF (tth types k) (aA5 ⟨qname,qtypes⟩ (tth types k).name) j).length ((L0++brF (tth types k) (aA5 ⟨qname,qtypes⟩ (tth types k).name) j).map Value.string) hs HOS.out ⟨w9.heap.size,0,none⟩ 1 1 [.string ((tth types k).name++(⟨#[46]⟩:ByteArray)++(fth (tth types k).fields j).name)] hx rfl (World.news_of_block HNB.out) (by intro u hu;simp at hu;subst hu;rfl) (by omega) (by unfold maxLen;omega) (by omega) (by rw[sS.out];omega) (w9.heap.size+1) sS.out (fun g cap w' h1 h2 _ _=>h g cap w' h1 h2)
      have FAR:Hid (∀(W:World) (b' o':Nat) (u:Value),(w9.alloc (.cells #[.string ((tth types k).name++(⟨#[46]⟩:ByteArray)++(fth (tth types k).fields j).name)] 9)).drew.grownBy W v.ownBlock->b'<w9.heap.size->v.ownBlock≠some b'->w9.cell? ⟨b',o',none⟩=some u->W.cell? ⟨b',o',none⟩=some u):=fun W b' o' u hgrow h1 h2 h3=>by
       rw[hgrow.cell_far ⟨b',o',none⟩ (by show b'<_;rw[sS.out];omega) (fun e=>h2 e.symm)]
       exact((aA2 w9 _).drew.cell (p:=⟨b',o',none⟩) h1).trans h3
      have nap:Hid (∀b',b'<w.heap.size+1+1->v.ownBlock≠some b'):=fun b' hb' e=>by have:=aDW HO9.out _ e;omega
      have hbw:Hid (b<w9.heap.size∧b<w.heap.size+1+1):=by
       have h0:b<w.heap.size:=World.block_lt_of_cell? w _ (hcs w (Below.refl _ _)).1;exact⟨by omega,by omega⟩
      rcases hs' with h1| ⟨h1,h2⟩| ⟨h1,h2,h3⟩| ⟨h1,h2,h3,h4⟩
      all_goals
       subst h1;try rw[h2] at d5
       go_wp2_with fail
       go_region_held3 (fun w'=>w'.cell? ⟨w.heap.size,1,none⟩=some (.slice (some ⟨b,off,none⟩) types.length tc)∧w'.cell? ⟨b,off+k*3,none⟩=some (.string (tth types k).name)∧w'.cell? ⟨w6.heap.size,0,none⟩=some (.string (fth (tth types k).fields j).name)) (go_keep)
        (first
         |(
          refine LAW.out _ _ _ _ _ _ rfl rfl rfl rfl ?_;intro g cap w10 hown hgrow;have s1:=FAR.out w10 _ _ _ hgrow (by omega) (nap.out _ (by omega)) p1
          have s2:=FAR.out w10 _ _ _ hgrow hbw.out.1 (nap.out _ hbw.out.2) c0;have s3:=FAR.out w10 _ _ _ hgrow (by omega) hap.out m0
          have hT10:=Below.grown (hT9.alloc (by omega) _).drew hgrow (by rw[sS.out];omega) (fun k hk=>(aDW HOS.out k hk).1)
          have HO10:Hid (w10.ownsRow (w.heap.size+1+1) 9 1 (.slice (some ⟨g,0,none⟩) ((L0++brF (tth types k) (aA5 ⟨qname,qtypes⟩ (tth types k).name) j).length+1) cap) (L0++brF (tth types k) (aA5 ⟨qname,qtypes⟩ (tth types k).name) (j+1)).length ((L0++brF (tth types k) (aA5 ⟨qname,qtypes⟩ (tth types k).name) (j+1)).map Value.string)):=by
           show w10.ownsRow _ _ _ _ _ _;have e1:(L0++brF (tth types k) (aA5 ⟨qname,qtypes⟩ (tth types k).name) (j+1)).length=(L0++brF (tth types k) (aA5 ⟨qname,qtypes⟩ (tth types k).name) j).length+1:=by rw[HB2.out];simp;omega
           have e2:(L0++brF (tth types k) (aA5 ⟨qname,qtypes⟩ (tth types k).name) (j+1)).map Value.string=List.map Value.string (L0++brF (tth types k) (aA5 ⟨qname,qtypes⟩ (tth types k).name) j)++[Value.string ((tth types k).name++(⟨#[46]⟩:ByteArray)++(fth (tth types k).fields j).name)]:=by rw[HB2.out];simp[aF4]
           rw[e1,e2];exact hown))
       all_goals
        go_wp2_with fail
        go_roundw
        case rel=>exact⟨j+1,_,by omega,by go_num,rfl,by rw[<-List.length_append];exact HO10,hT10⟩
        case measure=>simp[intOf];omega
    ·have e:j=(tth types k).fields.length:=by omega
     go_wp2_with fail
     go_roundw
     case rel=>exact⟨k+1,v,by omega,by go_num,rfl,by rw[HL2.out,<-e];exact HO,hT6⟩
     case measure=>simp[intOf];omega
  ·have e:k=types.length:=by omega
   go_wp2_with fail
   go_ret
   rw[HA.out,<-e];exact aCA.own hw0 (by omega) HO.out (HS.out k) (HN.out k hk)
end Go.Proofs.YtcebpkeiaiiphaaGreatDoor
