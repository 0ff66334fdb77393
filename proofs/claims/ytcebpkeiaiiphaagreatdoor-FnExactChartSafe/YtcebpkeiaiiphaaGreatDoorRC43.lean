import Derived.Test.YtcebpkeiaiiphaaGreatDoorRC42
import Derived.Test.YtcebpkeiaiiphaaGreatDoorRC35
import Derived.Test.YtcebpkeiaiiphaaGreatDoorRC37
set_option linter.unusedSimpArgs false
set_option linter.unusedVariables false
namespace Go.Proofs.YtcebpkeiaiiphaaGreatDoor
open Go.RowKit Go.Maps
def ocl(o:O)(na:Option Addr)(nc:Nat):List Value:=[.string o.type,.string o.field,.slice na o.parts.length nc]
def aE8(w:World)(P:Nat->Prop)(L:List O)(xs:List Value):Prop:=xs.length=L.length*3∧∀i,i<L.length->∃(na:Option Addr) (nc:Nat),(∀j,j<3->xs[i*3+j]?=(ocl (oth L i) na nc)[j]?)∧ORep w P (oth L i) (.agg (ocl (oth L i) na nc).toArray)
theorem aE8.mono{w w':World}{P:Nat->Prop}{L:List O}{xs:List Value}(h:aE8 w P L xs)(e:∀k,P k->w'.heap[k]?=w.heap[k]?):aE8 w' P L xs:=
 ⟨h.1,fun i hi=>by obtain⟨na,nc,h1,h2⟩:=h.2 i hi;exact⟨na,nc,h1,h2.mono e⟩⟩
theorem aE8.nil(w:World)(P:Nat->Prop):aE8 w P [] []:=⟨rfl,fun i hi=>absurd hi (Nat.not_lt_zero _)⟩
theorem aE8.snoc{w:World}{P:Nat->Prop}{L:List O}{xs:List Value}(h:aE8 w P L xs){f:O}{na:Option Addr}{nc:Nat}(hf:ORep w P f (.agg (ocl f na nc).toArray)):aE8 w P (L++[f]) (xs++ocl f na nc):=by
 refine⟨by rw[List.length_append,List.length_append,h.1];simp[ocl];omega,fun i hi=>?_⟩
 rw[List.length_append,List.length_singleton] at hi;by_cases e:i<L.length
 ·have h1:oth (L++[f]) i=oth L i:=by simp[oth,List.getD_eq_getElem?_getD,List.getElem?_append_left e]
  obtain⟨na',nc',h2,h3⟩:=h.2 i e;rw[h1];exact⟨na',nc',fun j hj=>by rw[List.getElem?_append_left (by rw[h.1];omega)];exact h2 j hj,h3⟩
 ·have:i=L.length:=by omega
  subst this;have h1:oth (L++[f]) L.length=f:=by simp[oth,List.getD_eq_getElem?_getD]
  rw[h1];exact⟨na,nc,fun j hj=>by rw[List.getElem?_append_right (by rw[h.1];omega),h.1,Nat.add_sub_cancel_left],hf⟩
theorem aE8.rep{w:World}{P Q:Nat->Prop}{B:Nat}{L:List O}{xs:List Value}{a:Option Addr}{n c:Nat}(h:aE8 w P L xs)(ho:w.ownsRow B 78 3 (.slice a n c) n xs)(hP:∀b,P b->Q b)(hQ:∀g,B<=g->g<w.heap.size->Q g)(hL:L.length<=1000000000):n=L.length∧n<=c∧aHP w Q L a:=by
 have hl:=ho.1;rw[h.1] at hl;have hn:n=L.length:=by omega
 subst hn;have hk:∀i,∃r:Option Addr× Nat,i<L.length->(∀j,j<3->xs[i*3+j]?=(ocl (oth L i) r.1 r.2)[j]?)∧ORep w P (oth L i) (.agg (ocl (oth L i) r.1 r.2).toArray):=fun i=>by
  by_cases hi:i<L.length
  ·obtain⟨na,nc,h1⟩:=h.2 i hi;exact⟨(na,nc),fun _=>h1⟩
  ·exact⟨(none,0),fun h=>absurd h hi⟩
 obtain⟨f,hf⟩:=Classical.skolem.1 hk;refine⟨rfl,?_,by omega,fun i j=>(ocl (oth L i) (f i).1 (f i).2).getD j undef,fun h0=>?_,fun i hi=>?_⟩
 ·rcases ho.2 with⟨-,e⟩| ⟨g,cap,cur,e,hb,hh,r⟩
  ·omega
  ·cases e;exact r.1
 ·rcases ho.2 with⟨-,e⟩| ⟨g,cap,cur,e,hb,hh,r⟩
  ·omega
  ·cases e;have hg:=ho.lt g rfl;refine⟨g,0,rfl,hQ g hg.1 hg.2,fun i hi j hj=>?_⟩;have h1:=(hf i hi).1 j hj;have h2:=ho.cellAt (i*3+j) (by omega)
   rw[show 0+i*3+j=i*3+j by omega,h2,h1]
   have hlen:(ocl (oth L i) (f i).1 (f i).2).length=3:=rfl;show _=some ((ocl (oth L i) (f i).1 (f i).2).getD j undef);rw[List.getD_eq_getElem?_getD,List.getElem?_eq_getElem (by omega)]
   rfl
 ·exact(hf i hi).2.sub hP
structure OwY(B:Nat)(w:World)(L:List O)(v:Value)(wr:World):Prop where
 ex:∃xs,wr.ownsRow w.heap.size 78 3 v L.length xs∧aE8 wr (fun b=>B<=b∧b<w.heap.size) L xs
 bel:Below w.heap.size w wr
theorem OwY.start{B:Nat}{w wr:World}(hb:Below w.heap.size w wr):OwY B w [] (.slice none 0 0) wr:=⟨⟨[],World.ownsRow_nil _ _ _ _,aE8.nil _ _⟩,hb⟩
theorem OwY.keep{B:Nat}{w wr wy:World}{L:List O}{v:Value}(h:OwY B w L v wr)(hb:Below wr.heap.size wr wy):OwY B w L v wy:=by
 obtain⟨xs,h1,h2⟩:=h.ex;have:=h.bel.size;exact⟨⟨xs,aAE h1 hb,h2.mono fun k hk=>hb.block k (by have:=hk.2;omega)⟩,h.bel.trans (hb.mono this)⟩
theorem OwY.push{B:Nat}{w wx wF:World}{L:List O}{v v':Value}{xs:List Value}(h1:wx.ownsRow w.heap.size 78 3 v L.length xs)(h2:aE8 wx (fun b=>B<=b∧b<w.heap.size) L xs)(hb:Below w.heap.size w wx)(o:O)(na:Option Addr)(nc:Nat)(hR:ORep wx (fun b=>B<=b∧b<w.heap.size) o (.agg (ocl o na nc).toArray))
  (ho:wF.ownsRow w.heap.size 78 3 v' (L.length+1) (xs++ocl o na nc)) (hg:wx.grownBy wF v.ownBlock):OwY B w (L++[o]) v' wF:=by
 have hs:=hb.size;have hk:∀b,b<w.heap.size->wF.heap[b]?=wx.heap[b]?:=fun b hb=>hg.block b (by omega) fun e=>by have:=(h1.lt b e.symm).1;omega
 refine⟨⟨_,?_,(h2.mono fun b hb=>hk b hb.2).snoc (hR.mono fun b hb=>hk b hb.2)⟩,hb.grown hg hs fun k hk=>(h1.lt k hk).1⟩;rw[List.length_append,List.length_singleton];exact ho
theorem aI1(ts:List T)(n:Nat):∀m,n<=m->aB1 ts n<=aB1 ts m
 |0,h=>by rw[show n=0 by omega];exact Nat.le_refl _
 |m+1,h=>by
  by_cases e:n=m+1
  ·rw[e];exact Nat.le_refl _
  ·have:=aI1 ts n m (by omega)
   rw[aB8];omega
section
variable {w:World} {P:Nat->Prop} {B:Nat} {c:Nat} {V:Sv}
set_option maxRecDepth 20000 in
set_option maxHeartbeats 6400000 in
theorem aI0(ps:List Pt)(h:SuL w P B (suM ps) c V)(hP:∀b,P b->b<B)(hB:B<=w.heap.size)(hc:c<=100000)(hok:∀i,i<ps.length->okP (pth ps i)=true)(pa:Option Addr)(pl pc:Nat)(A:Pt)(ta:Option Addr)(tc:Nat)(aname:ByteArray)(hA:PRep w (·<w.heap.size) A (.agg #[.string aname,.slice ta A.types.length tc]))(hz:szP A<=1048576):
  Calls Tryz.prog 84 #[.agg (V.cells (.slice pa pl pc)),.agg #[.string aname,.slice ta A.types.length tc]] w fun e w'=>∃oa oc,e=.returned (.slice oa (ownT ps A A.types.length).length oc)∧Below w.heap.size w w'∧(ownT ps A A.types.length).length<=oc∧aHP w' (fun b=>B<=b∧b<w'.heap.size) (ownT ps A A.types.length) oa:=by
 obtain⟨p1,r1,k1,p2,r2,k2,p3,r3,k3,p4,r4,k4,HV⟩:=h.form (.slice pa pl pc);have HOW:Hid (∀nm n,∃a k,(nm.size<=maxLen->n.size<=maxLen->ORep w (fun b=>B<=b∧b<w.heap.size) (ownO ps nm n) (.agg (ocl (ownO ps nm n) a k).toArray))∧∀W,Below w.heap.size w W->(Instr.lookup 142 (.map (some V.m4)) (fk nm n) false).run Tryz.prog W=.ok (.slice a (ownO ps nm n).parts.length k) W):=aA0 fun nm n=>by
  obtain⟨a,k,h1,h2,h3⟩:=h.owns hc nm n;have e:(suM ps).ow nm n=aAW ps nm n:=(aHI hok ps.length (Nat.le_refl _) nm n).2.1;rw[e] at h1 h2 h3;have e2:(ownO ps nm n).parts.length=(aAW ps nm n).length:=by simp[ownO]
  refine⟨a,k,fun hn1 hn2=>⟨a,k,rfl,h1.sub fun b hb=>h.bd b (.inr (.inr (.inr hb))),by rw[e2];exact h2,hn1,hn2⟩,fun W hW=>by rw[e2];exact h3 W hW⟩
 obtain⟨_,_,e,hTS,-⟩:=hA;simp only[Value.agg.injEq,Array.mk.injEq,List.cons.injEq,Value.slice.injEq,and_true] at e;obtain⟨-,rfl,-,rfl⟩:=e;have HTS:=aA0 hTS;have HBL:=aA0 hB;have hzt:szP A=A.name.size+(A.types.length+aB1 A.types A.types.length):=rfl;have HLB:Hid (∀k l,k<A.types.length->l<=(tth A.types k).fields.length->(ownT ps A k++ownF ps (tth A.types k) l).length<=3000000):=aA0 fun k l hk hl=>by
  have h1:=aLO ps A k;have h2:=aP7 A k;have h3:=aI1 A.types k A.types.length (by omega)
  have h4:=aOO A k hk hz;have e2:szT (tth A.types k)=(tth A.types k).name.size+(tth A.types k).key.size+((tth A.types k).fields.length+aBE (tth A.types k).fields (tth A.types k).fields.length):=rfl;rw[List.length_append,aID];omega
 have HLE:Hid ((ownT ps A A.types.length).length<=3000000):=aA0 (by
  have h1:=aLO ps A A.types.length;have h2:=aP7 A A.types.length;omega)
 rw[HV];obtain⟨tl,HTL⟩:∃x,Hid (x=A.types.length):=⟨_,aA0 rfl⟩;have htl:tl<=1048576:=by rw[HTL.out];omega
 rw[<-HTL.out];clear h hP hB hc hok hTS hz hzt HV;have b1:=aA6 w (.cells #[.slice pa pl pc,.slice p1 r1 k1,.map (some V.m1),.slice p2 r2 k2,.map (some V.m2),.slice p3 r3 k3,.map (some V.m3),.slice p4 r4 k4,.map (some V.m4)] 146) (.cells #[.string aname,.slice ta tl tc] 46);have hsb:((w.alloc (.cells #[.slice pa pl pc,.slice p1 r1 k1,.map (some V.m1),.slice p2 r2 k2,.map (some V.m2),.slice p3 r3 k3,.map (some V.m3),.slice p4 r4 k4,.map (some V.m4)] 146)).alloc (.cells #[.string aname,.slice ta tl tc] 46)).heap[w.heap.size]?=some (.cells #[.slice pa pl pc,.slice p1 r1 k1,.map (some V.m1),.slice p2 r2 k2,.map (some V.m2),.slice p3 r3 k3,.map (some V.m3),.slice p4 r4 k4,.map (some V.m4)] 146 (0,0)):=by
  rw[(aA2 (w.alloc _) _).block w.heap.size (by simp)]
  exact heap_alloc_new w _
 have hab:=aA3 (w:=w.alloc (.cells #[.slice pa pl pc,.slice p1 r1 k1,.map (some V.m1),.slice p2 r2 k2,.map (some V.m2),.slice p3 r3 k3,.map (some V.m3),.slice p4 r4 k4,.map (some V.m4)] 146)) (N:=w.heap.size+1) #[.string aname,.slice ta tl tc] 46 (by simp)
 have z1:((w.alloc (.cells #[.slice pa pl pc,.slice p1 r1 k1,.map (some V.m1),.slice p2 r2 k2,.map (some V.m2),.slice p3 r3 k3,.map (some V.m3),.slice p4 r4 k4,.map (some V.m4)] 146)).alloc (.cells #[.string aname,.slice ta tl tc] 46)).heap.size=w.heap.size+2:=by simp
 go_enter Tryz.func84,Tryz.ntmps84
 go_upto_region 1 with fail
 generalize (w.alloc (.cells #[.slice pa pl pc,.slice p1 r1 k1,.map (some V.m1),.slice p2 r2 k2,.map (some V.m2),.slice p3 r3 k3,.map (some V.m3),.slice p4 r4 k4,.map (some V.m4)] 146)).alloc (.cells #[.string aname,.slice ta tl tc] 46)=w1 at*;have d1:=(aA1 hab 1 (by simp)).1
 simp only[List.getElem_toArray,List.getElem_cons_zero,List.getElem_cons_succ] at d1;have HB1:=aA0 b1;have HBW:Hid (∀W,Below w1.heap.size w1 W->Below w.heap.size w W):=aA0 fun W hW=>HB1.out.trans (hW.mono (by have:=HB1.out.size;omega))
 have HSC:Hid (∀W,Below w1.heap.size w1 W->W.heap[w.heap.size]?=some (.cells #[.slice pa pl pc,.slice p1 r1 k1,.map (some V.m1),.slice p2 r2 k2,.map (some V.m2),.slice p3 r3 k3,.map (some V.m3),.slice p4 r4 k4,.map (some V.m4)] 146 (0,0))):=aA0 fun W hW=>(hW.block w.heap.size (by omega)).trans hsb
 have HZ1:=aA0 z1;have HO0:=aA0 (OwY.start (B:=B) (Below.refl w1.heap.size w1));clear b1 hsb hab z1;go_wp2_with fail
 clear d1;go_loopw [5,13] (fun v y wr=>∃k:Nat,k<=tl∧y=.int .i64 k∧Hid (OwY B w1 (ownT ps A k) v wr)) (fun _ y _=>tl- (intOf y).toNat)
 case atStart=>exact⟨0,Nat.zero_le _,rfl,HO0⟩
 case round=>
 clear HO0;obtain⟨k,hk,rfl,HK⟩:=hrel;obtain⟨w3,rfl⟩:∃x,x=wr:=⟨wr,rfl⟩;obtain⟨v,rfl⟩:∃x,x=u5:=⟨u5,rfl⟩;by_cases hlt:k<tl
 ·have hki:(k:Int)<(tl:Int):=by omega
  have hkt:k<A.types.length:=by rw[<-HTL.out];exact hlt
  obtain⟨tb,to',fa,fc,rfl,hTR,htc⟩:=HTS.out.at (Nat.le_refl _) k hkt;obtain⟨x0,x1,x2⟩:=htc w3 (HBW.out w3 HK.out.bel);have HLK2:=aA0 (fun l=>HLB.out k l hkt);have HTK:Hid (ownT ps A (k+1)=ownT ps A k++ownF ps (tth A.types k) (tth A.types k).fields.length):=aA0 rfl;clear htc;generalize tth A.types k=t at*;obtain⟨fa2,fc2,e0,e1,e2,hFS,-,htn,-⟩:=hTR.parts;simp only[Value.slice.injEq,true_and] at e2;obtain⟨rfl,rfl⟩:=e2;have hflb:t.fields.length<=3000000:=by
   have:=HLK2.out t.fields.length (Nat.le_refl _);rw[List.length_append,aID] at this;omega
  have HFS:=aA0 hFS;have HTN:=aA0 htn;obtain⟨fl,HFL⟩:∃x,Hid (x=t.fields.length):=⟨_,aA0 rfl⟩;rw[<-HFL.out] at x2 HTK hflb;have bT:=aA2 w3 (.cells #[.string t.name,.string t.key,.slice fa fl fc] 96);have nT:=aA3 (w:=w3) (N:=w3.heap.size) #[.string t.name,.string t.key,.slice fa fl fc] 96 rfl;have HK4:Hid (OwY B w1 (ownT ps A k++ownF ps t 0) v (w3.alloc (.cells #[.string t.name,.string t.key,.slice fa fl fc] 96))∧(w3.alloc (.cells #[.string t.name,.string t.key,.slice fa fl fc] 96)).heap[w3.heap.size]?=some (.cells #[.string t.name,.string t.key,.slice fa fl fc] 96 (0,0))):=aA0 ⟨by rw[ownF,List.append_nil];exact HK.out.keep bT,nT⟩
  have y2:=(aA1 nT 2 (by simp)).1
  simp only[List.getElem_toArray,List.getElem_cons_zero,List.getElem_cons_succ] at y2;have hz13:=HK.out.bel.size;clear hTR hFS e0 e1 htn bT nT;go_upto_region 5 with fail
  clear x0 x1 x2;generalize w3.alloc (.cells #[.string t.name,.string t.key,.slice fa fl fc] 96)=w4 at*;go_wp2_with fail
  clear y2;go_loopw [5,20] (fun v y wr=>∃l:Nat,l<=fl∧y=.int .i64 l∧Hid (OwY B w1 (ownT ps A k++ownF ps t l) v wr∧wr.heap[w3.heap.size]?=some (.cells #[.string t.name,.string t.key,.slice fa fl fc] 96 (0,0)))) (fun _ y _=>fl- (intOf y).toNat)
  case atStart=>exact⟨0,Nat.zero_le _,rfl,HK4⟩
  case round=>
  clear HK4;obtain⟨l,hl,rfl,HL⟩:=hrel;obtain⟨w6,rfl⟩:∃x,x=wr:=⟨wr,rfl⟩;obtain⟨v,rfl⟩:∃x,x=u5:=⟨u5,rfl⟩;by_cases hl2:l<fl
  ·have hli:(l:Int)<(fl:Int):=by omega
   have hlt2:l<t.fields.length:=by rw[<-HFL.out];exact hl2
   obtain⟨fb,fo,na,nc,rfl,hFR,hcf⟩:=HFS.out.at (Nat.le_refl _) l hlt2;obtain⟨x0,x1,x2,x3,x4,x5,x6,x7⟩:=hcf w6 (HBW.out w6 HL.out.1.bel);have HFE:Hid (ownT ps A k++ownF ps t (l+1)=(ownT ps A k++ownF ps t l)++[ownO ps t.name (fth t.fields l).name]):=aA0 (by rw[ownF,List.append_assoc])
   have hq:=HLK2.out l (by omega)
   clear hcf hlt2;generalize fth t.fields l=f at*;obtain⟨-,-,-,-,-,hfn,-⟩:=hFR;have HFN:=aA0 hfn;obtain⟨xs,hR,hC⟩:=HL.out.1.ex;generalize ownT ps A k++ownF ps t l=L at*;obtain⟨q,HQ⟩:∃x,Hid (x=L.length):=⟨_,aA0 rfl⟩;rw[<-HQ.out] at hq hR;have b7:=aA2 w6 (.cells #[.string f.name,.string f.of,.bool f.list,.bool f.must,.bool f.far,.bool f.hidden,.bool f.shared,.slice na f.needs.length nc] 80);have n7:=aA3 (w:=w6) (N:=w6.heap.size) #[.string f.name,.string f.of,.bool f.list,.bool f.must,.bool f.far,.bool f.hidden,.bool f.shared,.slice na f.needs.length nc] 80 rfl;have z7:w6.heap.size<(w6.alloc (.cells #[.string f.name,.string f.of,.bool f.list,.bool f.must,.bool f.far,.bool f.hidden,.bool f.shared,.slice na f.needs.length nc] 80)).heap.size:=by simp
   have h36:=(Array.getElem?_eq_some_iff.1 HL.out.2).1;go_upto_region 8 with fail
   clear x0 x1 x2 x3 x4 x5 x6 x7;generalize w6.alloc (.cells #[.string f.name,.string f.of,.bool f.list,.bool f.must,.bool f.far,.bool f.hidden,.bool f.shared,.slice na f.needs.length nc] 80)=w7 at*;have b17:=HL.out.1.bel.trans (b7.mono HL.out.1.bel.size);have hz17:=b17.size;have hz16:=HL.out.1.bel.size;have HB17:=aA0 b17;have hT7:=(b7.block _ h36).trans HL.out.2;have HVB:Hid (∀b,v.ownBlock=some b->w1.heap.size<=b∧b<w6.heap.size∧b≠w3.heap.size):=aA0 fun b hb=>by
    have h1:=hR.lt b hb;refine⟨h1.1,h1.2,fun e=>?_⟩;subst e;obtain⟨cur,h2⟩:=aKK hR hb;rw[HL.out.2] at h2;simp only[Option.some.injEq,Obj.cells.injEq] at h2;exact absurd h2.2.1 (by decide)
   have HR7:=aA0 (aAE hR b7);have HC7:Hid (aE8 w7 (fun b=>B<=b∧b<w1.heap.size) L xs):=aA0 (hC.mono fun b hb=>b7.block b (by have:=hb.2;omega))
   obtain⟨ia,ik,hop,hlk⟩:=HOW.out t.name f.name;have HOP:=aA0 (hop HTN.out HFN.out);obtain⟨il,HIL⟩:∃x,Hid (x=(ownO ps t.name f.name).parts.length):=⟨_,aA0 rfl⟩;rw[<-HIL.out] at hlk;have HLK:Hid (∀W,Below w7.heap.size w7 W->(Instr.lookup 142 (.map (some V.m4)) (fk t.name f.name) false).run Tryz.prog W=.ok (.slice ia il ik) W):=aA0 fun W hW=>hlk W (HBW.out W (HB17.out.trans (hW.mono hz17)));have HT7:=aA0 hT7;have HN7:=aA0 n7;have hzw:=HZ1.out;have HS0:Hid (∀W:World,(∀b,b<w7.heap.size->v.ownBlock≠some b->W.heap[b]?=w7.heap[b]?)->(W.cell? ⟨w.heap.size,8,none⟩=some (.map (some V.m4))∧W.cell? ⟨w3.heap.size,0,none⟩=some (.string t.name)∧W.cell? ⟨w6.heap.size,0,none⟩=some (.string f.name))∧W.heap[w3.heap.size]?=some (.cells #[.string t.name,.string t.key,.slice (some ⟨fb,fo,none⟩) fl fc] 96 (0,0))):=aA0 fun W hW=>by
    have q1:=(hW w.heap.size (by omega) fun e=>by have:=(HVB.out _ e).1;omega).trans (HSC.out w7 HB17.out)
    have q2:=(hW w3.heap.size (by omega) fun e=>(HVB.out _ e).2.2 rfl).trans HT7.out
    have q3:=(hW w6.heap.size (by omega) fun e=>by have:=(HVB.out _ e).2.1;omega).trans HN7.out
    exact⟨⟨(aA1 q1 8 (by simp)).1,(aA1 q2 0 (by simp)).1,(aA1 q3 0 (by simp)).1⟩,q2⟩
   have HS6:Hid (∀W,Below w7.heap.size w7 W->W.cell? ⟨w.heap.size,8,none⟩=some (.map (some V.m4))∧W.cell? ⟨w3.heap.size,0,none⟩=some (.string t.name)∧W.cell? ⟨w6.heap.size,0,none⟩=some (.string f.name)):=aA0 fun W hW=>(HS0.out W fun b hb _=>hW.block b hb).1;have HRW:Hid (∀W,Below w7.heap.size w7 W->W.ownsRow w1.heap.size 78 3 v q xs):=aA0 fun W hW=>aAE HR7.out hW;have HEND:Hid (∀W,Below w7.heap.size w7 W->∀g cap (wF:World),wF.ownsRow w1.heap.size 78 3 (.slice (some ⟨g,0,none⟩) (q+1) cap) (q+1) (xs++[.string t.name,.string f.name,.slice ia il ik])->W.grownBy wF v.ownBlock->(v.ownBlock=some g∨g=W.heap.size)->(wF.cell? ⟨w.heap.size,8,none⟩=some (.map (some V.m4))∧wF.cell? ⟨w3.heap.size,0,none⟩=some (.string t.name)∧wF.cell? ⟨w6.heap.size,0,none⟩=some (.string f.name))∧(OwY B w1 (ownT ps A k++ownF ps t (l+1)) (.slice (some ⟨g,0,none⟩) (q+1) cap) wF∧wF.heap[w3.heap.size]?=some (.cells #[.string t.name,.string t.key,.slice (some ⟨fb,fo,none⟩) fl fc] 96 (0,0)))):=aA0 fun W hW g cap wF ho hg hor=>by
    have hWs:=hW.size;obtain⟨s1,s2⟩:=HS0.out wF fun b hb hn=>(hg.block b (by omega) fun e=>hn e.symm).trans (hW.block b hb)
    refine⟨s1,?_,s2⟩;rw[HFE.out];have hb:=HB17.out.trans (hW.mono hz17);exact OwY.push (L:=L) (xs:=xs) (by rw[<-HQ.out];exact HRW.out W hW) (HC7.out.mono fun b hb=>hW.block b (by have:=hb.2;omega)) hb (ownO ps t.name f.name) ia ik ((HOP.out.mono fun b hb2=>(HBW.out W hb).block b hb2.2).sub fun b hb2=>⟨hb2.1,by have:=hb2.2;omega⟩) (by rw[<-HQ.out];unfold ocl;rw[<-HIL.out];exact ho) hg
   obtain⟨iO,zO,hiO,hO0,hO1,hO2,hOz⟩:=aJW;have bX:Below w7.heap.size w7 w7.drew:=(Below.refl _ _).drew;clear b7 n7 b17 hT7 hR hC hop hlk hzw hfn h36 z7;refine wp_region_held_drew (S:=(fun w'=>w'.cell? ⟨w.heap.size,8,none⟩=some (.map (some V.m4))∧w'.cell? ⟨w3.heap.size,0,none⟩=some (.string t.name)∧w'.cell? ⟨w6.heap.size,0,none⟩=some (.string f.name))) (by kernel_rfl) (HS6.out _ bX) (fun hHeld=>?_)
   generalize w7.drew=wD at*;refine tkH 0 hHeld ?_;refine tkH 1 hHeld ?_;refine tkH 2 hHeld ?_;refine tkH 3 hHeld ?_;refine tkH 4 hHeld ?_;refine tkH 5 hHeld ?_;refine tkH 6 hHeld ?_;refine tkH 7 hHeld ?_;refine tkH 8 hHeld ?_;refine tkH 9 hHeld ?_;refine tkH 10 hHeld ?_;refine tkH 11 hHeld ?_;refine tkH 12 hHeld ?_;refine rdyH [13] ?_;refine rcH (fun K hK=>?_) AllReadyH.nil;have hlk:=HLK.out wD bX;simp only[fk] at hlk;go_simp
   clear hlk;refine hK.out _ _ (HS6.out _ bX) (fun hHeld=>?_);clear hK K;try simp only[Act.put,sIA,sI0,sIS]
   refine tkH 14 hHeld ?_;refine rdyH [15] ?_;refine rcH (fun K hK=>?_) AllReadyH.nil;go_simp
   have bE:=aA2 wD (.cells #[.string t.name,.string f.name,.slice ia il ik] 78);obtain⟨gE,hgE⟩:∃g,g=wD.heap.size:=⟨_,rfl⟩;have nE:=aA3 (w:=wD) (N:=gE) #[.string t.name,.string f.name,.slice ia il ik] 78 hgE.symm;have bX:=bX.trans (bE.mono bX.size);refine hK.out _ _ (HS6.out _ bX) (fun hHeld=>?_);clear hK K;try simp only[Act.put,sIA,sI0,sIS]
   rw[<-hgE];generalize wD.alloc (.cells #[.string t.name,.string f.name,.slice ia il ik] 78)=wE at*;clear hgE bE;refine rdyH [16] ?_;refine rcH (fun K hK=>?_) AllReadyH.nil;refine step_append_lies _ rfl (.tmp 24) (.tmp 39) 47 rfl w1.heap.size 78 iO zO 3 56 Tryz.underlying47 hiO hO0 hO1 hO2 hOz (by decide) v q xs rfl (HRW.out wE bX) ⟨gE,0,none⟩ 1 1 [.string t.name,.string f.name,.slice ia il ik] rfl rfl (World.news_of_block nE) (by intro u hu;simp at hu;rcases hu with rfl| rfl| rfl<;>rfl) (by omega) (by unfold maxLen;omega) (by omega) (by have:=bX.size;omega) _ rfl ?_
   intro gF capF wF oF hgF horF hltF;obtain⟨hsF,hAF⟩:=HEND.out wE bX gF capF wF oF hgF horF;have HAF:=aA0 hAF;clear oF hgF horF hAF;refine hK.out _ _ hsF (fun hHeld=>?_);clear hK K;try simp only[Act.put,sIA,sI0,sIS]
   refine tkH 17 hHeld ?_;refine wpAnyH_done (by kernel_rfl) ?_ _
   go_wp2_with fail
   exact⟨⟨l+1,by omega,by go_num,HAF⟩,by simp[intOf];omega⟩
  ·have hli:¬(l:Int)<(fl:Int):=by omega
   have e:l=fl:=by omega
   subst e;have HFN:=aA0 HL.out.1;rw[<-HTK.out] at HFN;go_wp2_with fail
   exact⟨⟨k+1,by omega,by go_num,HFN⟩,by simp[intOf];omega⟩
 ·have hki:¬(k:Int)<(tl:Int):=by omega
  have e:k=tl:=by omega
  subst e;obtain⟨xs,hR,hC⟩:=HK.out.ex;obtain⟨oa,on,oc,rfl⟩:=aC3 hR;have hLE:=HLE.out;rw[<-HTL.out] at hLE;have hn:on=(ownT ps A k).length:=by
   rcases hR.2 with⟨e,e2⟩| ⟨g,cap,cur,e,-⟩
   ·cases e;omega
   ·cases e;rfl
  subst hn;have hz:=HK.out.bel.size;obtain⟨-,h1,h2⟩:=hC.rep hR (Q:=fun b=>B<=b∧b<w3.heap.size) (fun b hb=>⟨hb.1,Nat.lt_of_lt_of_le hb.2 hz⟩) (fun g h0 h=>⟨by have:=HBL.out;have:=HB1.out.size;omega,h⟩) (by omega)
  have HF:=aA0 (And.intro (HBW.out w3 HK.out.bel) (And.intro h1 h2));clear hR hC h1 h2 hLE hz;go_wp2_with fail
  go_ret
  exact⟨_,_,rfl,HF.out⟩
end
theorem aMU(ps:List Pt)(hz:∀i,i<ps.length->szP (pth ps i)<=1048576)(m:Nat)(nm k:ByteArray):(sayF (pth ps m) nm k).needs.length<=1000000000:=by
 have hp:szP (pth ps m)<=1048576:=by
  by_cases h:m<ps.length
  ·exact hz m h
  ·have e:pth ps m=Pt.zero:=by simp[pth,List.getD_eq_getElem?_getD,List.getElem?_eq_none (Nat.le_of_not_lt h)]
   rw[e];decide
 have h1:=aFV (pth ps m) nm;have h2:szT (aA5 (pth ps m) nm)=(aA5 (pth ps m) nm).name.size+(aA5 (pth ps m) nm).key.size+szFs (aA5 (pth ps m) nm).fields:=rfl;unfold sayF aAT;split
 ·have:=aNH _ (show szFs (aA5 (pth ps m) nm).fields<=1048576 by omega) (aAB (aA5 (pth ps m) nm) k).toNat
  omega
 ·simp[F.zero]
theorem aDS(w:World)(P:Nat->Prop)(a:Option Addr):Strs w P [] a:=⟨fun h=>absurd rfl h,fun i=>by simp[nth,maxLen],by simp[maxLen]⟩
def aVB(ps:List Pt)(all:Pt)(w:World)(e:Ending)(w':World):Prop:=∃M base,e=.returned (.pointer (some ⟨M,0,none⟩))∧w.heap.size<=base∧Below w.heap.size w w'∧∃sv wv bv WV,WkM base M (wkE ps all).st (wkE ps all).wy (wkE ps all).bad sv wv bv WV w'
set_option maxRecDepth 20000 in
set_option maxHeartbeats 1600000 in
theorem aRM(ps:List Pt)(all:Pt)(w:World)(B:Nat)(a:Option Addr)(c:Nat)(av:Value)(ho:okP all=true)(hp:0<ps.length)(h4:ps.length<=4)(hnl:∀m nm k,(sayF (pth ps m) nm k).needs.length<=1000000000)(hR:aAP w (·<B) ps a)(hA:PRep w (·<B) all av)(hB:B<=w.heap.size):
  Calls Tryz.prog 27 #[.slice a ps.length c,av] w (aVB ps all w):=by
 have hA':=hA;obtain⟨ata,atc,rfl,-⟩:=hA;obtain⟨hn30,hend,hmore⟩:=aRC ho hp h4;have HEN:=aA0 hend;have HFEW:Hid (∀n,n<=wkN ps all->(wkTo ps all n).st.length<=20):=aA0 fun n h=>(aOB ho hp n fun i hi=>hmore i (by omega)).few h4 (aEB ho).2
 have HMO:=aA0 hmore;have HOKW:=aA0 (fun n (h:n<=wkN ps all)=>aOB ho hp n fun i hi=>hmore i (by omega))
 have b1:=aA2 w (.cells #[.string all.name,.slice ata all.types.length atc] 46);have n1:=aA3 (w:=w) (N:=w.heap.size) #[.string all.name,.slice ata all.types.length atc] 46 rfl;have HZ1:Hid ((w.alloc (.cells #[.string all.name,.slice ata all.types.length atc] 46)).heap.size=w.heap.size+1):=aA0 (by simp)
 have HGO0:Hid (∀W K i base M sv wv bv WV,Below w.heap.size w W->w.heap.size<=base->WkM base M K.st K.wy K.bad sv wv bv WV W->WkOk ps all K->i<K.st.length->Calls Tryz.prog 51 #[.pointer (some ⟨M,0,none⟩),.slice a ps.length c,.agg #[.string all.name,.slice ata all.types.length atc],.int .i64 ((i:Nat):Int)] W fun e w'=>e=.returned (.tuple #[])∧aUR base M (K.turn ps all i) W w'):=aA0 fun W K i base M sv wv bv WV hb hba hk hok hi=>
  aSP ps all K i W B base M a c _ sv wv bv WV hk hok hi ho h4 hnl (hR.under (hb.mono hB)) (hA'.under (hb.mono hB)) (Nat.le_trans hB hba)
 clear hR hA' hB hend hmore;generalize ps.length=pl at*;generalize all.types.length=atl at*;generalize all.name=anm at*;go_enter Tryz.func27,Tryz.ntmps27
 go_upto_region 1 with fail
 generalize w.alloc (.cells #[.string anm,.slice ata atl atc] 46)=X1 at*;have n2:=aA3 (w:=X1) (N:=X1.heap.size) #[.int .i64 0,.string ⟨#[113,117,101,114,121]⟩] 72 rfl;have b2:=aA2 X1 (.cells #[.int .i64 0,.string ⟨#[113,117,101,114,121]⟩] 72);have b3:=aA2 (X1.alloc (.cells #[.int .i64 0,.string ⟨#[113,117,101,114,121]⟩] 72)) (.cells #[] 9);have n4:=aA3 (w:=((X1.alloc (.cells #[.int .i64 0,.string ⟨#[113,117,101,114,121]⟩] 72)).alloc (.cells #[] 9))) (N:=X1.heap.size+1+1) #[.slice (some ⟨X1.heap.size+1,0,none⟩) 0 0] 33 (by simp)
 have b4:=aA2 ((X1.alloc (.cells #[.int .i64 0,.string ⟨#[113,117,101,114,121]⟩] 72)).alloc (.cells #[] 9)) (.cells #[.slice (some ⟨X1.heap.size+1,0,none⟩) 0 0] 33);have n5:=aA3 (w:=(((X1.alloc (.cells #[.int .i64 0,.string ⟨#[113,117,101,114,121]⟩] 72)).alloc (.cells #[] 9)).alloc (.cells #[.slice (some ⟨X1.heap.size+1,0,none⟩) 0 0] 33))) (N:=X1.heap.size+1+1+1) #[.slice (some ⟨X1.heap.size,0,none⟩) 1 1,.slice (some ⟨X1.heap.size+1+1,0,none⟩) 1 1,.slice none 0 0] 56 (by simp)
 have b5:=aA2 (((X1.alloc (.cells #[.int .i64 0,.string ⟨#[113,117,101,114,121]⟩] 72)).alloc (.cells #[] 9)).alloc (.cells #[.slice (some ⟨X1.heap.size+1,0,none⟩) 0 0] 33)) (.cells #[.slice (some ⟨X1.heap.size,0,none⟩) 1 1,.slice (some ⟨X1.heap.size+1+1,0,none⟩) 1 1,.slice none 0 0] 56);have q2:=((b3.trans ((b4.trans (b5.mono b4.size)).mono b3.size)).block X1.heap.size (by simp)).trans n2
 have q4:=(b5.block (X1.heap.size+1+1) (by simp)).trans n4
 have b25:=b2.trans ((b3.trans ((b4.trans (b5.mono b4.size)).mono b3.size)).mono b2.size);go_upto_region 2 with fail
 generalize ((((X1.alloc (.cells #[.int .i64 0,.string ⟨#[113,117,101,114,121]⟩] 72)).alloc (.cells #[] 9)).alloc (.cells #[.slice (some ⟨X1.heap.size+1,0,none⟩) 0 0] 33))).alloc (.cells #[.slice (some ⟨X1.heap.size,0,none⟩) 1 1,.slice (some ⟨X1.heap.size+1+1,0,none⟩) 1 1,.slice none 0 0] 56)=X5 at*;have HW0:Hid (WkM X1.heap.size (X1.heap.size+1+1+1) [⟨0,qry⟩] [[]] [] (.slice (some ⟨X1.heap.size,0,none⟩) 1 1) (.slice (some ⟨X1.heap.size+1+1,0,none⟩) 1 1) (.slice none 0 0) [.slice (some ⟨X1.heap.size+1,0,none⟩) 0 0] X5):=aA0
  ⟨n5,⟨rfl,.inr ⟨X1.heap.size,1,_,rfl,Nat.le_refl _,q2,Nat.le_refl _,by unfold maxLen;omega,rfl,rfl⟩⟩,⟨rfl,.inr ⟨X1.heap.size+1+1,1,_,rfl,by omega,q4,Nat.le_refl _,by unfold maxLen;omega,rfl,rfl⟩⟩,rfl,
   fun g e h=>by
    simp only[Value.ownBlock,Option.some.injEq] at e h;omega,fun e=>by
    simp only[Value.ownBlock,Option.some.injEq] at e;omega,fun e=>by
    simp only[Value.ownBlock,Option.some.injEq] at e;omega,by omega,
   fun i hi=>by
    have e:i=0:=by simp at hi;exact hi
    subst e;exact⟨_,_,rfl,aDS _ _ _⟩,none,0,rfl,aDS _ _ _⟩
 have HAB:Hid (∀W,Below X1.heap.size X5 W->(W.cell? ⟨w.heap.size,0,none⟩=some (.string anm)∧W.cell? ⟨w.heap.size,1,none⟩=some (.slice ata atl atc))∧Below w.heap.size w W):=aA0 fun W hW=>by
  have hb:=b25.trans hW;have h:=(hb.block w.heap.size (by have:=HZ1.out;omega)).trans n1
  exact⟨⟨(aA1 h 0 (by simp)).1,(aA1 h 1 (by simp)).1⟩,b1.trans (hb.mono b1.size)⟩
 have HBL:Hid (w.heap.size<=X1.heap.size):=aA0 b1.size;clear n1 n2 n4 n5 b1 b2 b3 b4 b5 b25 q2 q4 HZ1;go_wp2_with fail
 go_loopw [6] (fun i' wr=>∃(k:Nat) (sv wv bv:Value) (WV:List Value),k<=wkN ps all∧i'=.int .i64 k∧Hid (WkM X1.heap.size (X1.heap.size+1+1+1) (wkTo ps all k).st (wkTo ps all k).wy (wkTo ps all k).bad sv wv bv WV wr)∧Below X1.heap.size X5 wr) (fun i' _=>30- (intOf i').toNat)
 case atStart=>exact⟨0,_,_,_,_,Nat.zero_le _,rfl,HW0,Below.refl _ _⟩
 case round=>
  obtain⟨k,sv,wv,bv,WV,hk,rfl,HWK,hb⟩:=hrel;obtain⟨w0,rfl⟩:∃x,x=wr:=⟨wr,rfl⟩;obtain⟨sa,sc,hsv⟩:=aIM HWK.out.srow;obtain⟨m0,-,-,-⟩:=HWK.out.cells;rw[hsv] at m0;obtain⟨⟨y0,y1⟩,bw⟩:=HAB.out w0 hb;have HOK:=aA0 (HOKW.out k hk);have HKE:Hid (k<(wkTo ps all k).st.length->k<wkN ps all):=aA0 fun h=>by
   rcases Nat.lt_or_eq_of_le hk with h1| h1
   ·exact h1
   ·have h2:=HEN.out;unfold wkE at h2;rw[<-h1] at h2;omega
  have HKX:Hid (¬k<(wkTo ps all k).st.length->k=wkN ps all):=aA0 fun h=>by
   rcases Nat.lt_or_eq_of_le hk with h1| h1
   ·exact absurd (HMO.out k h1) h
   ·exact h1
  have HTU:Hid (wkTo ps all (k+1)=(wkTo ps all k).turn ps all k):=aA0 rfl;have hs30:(wkTo ps all k).st.length<=1000000:=by have:=HFEW.out k hk;omega
  clear hsv;by_cases hlt:k<(wkTo ps all k).st.length
  ·have hki:(k:Int)<((wkTo ps all k).st.length:Int):=by omega
   have HCA:=aA0 (HGO0.out w0 (wkTo ps all k) k X1.heap.size (X1.heap.size+1+1+1) sv wv bv WV bw HBL.out HWK.out HOK.out hlt);have hk2:=HKE.out hlt;go_wp2_with (go_at_call 51;refine HCA.out.mono ?_;rintro e w1 ⟨rfl,hg⟩)
   obtain⟨hb1,sv',wv',bv',WV',hw1⟩:=hg;go_roundw
   case measure=>simp[intOf];omega
   case rel=>exact⟨k+1,sv',wv',bv',WV',by omega,by go_num,aA0 (by rw[HTU.out];exact hw1),hb.trans hb1⟩
  ·have hki:¬(k:Int)<((wkTo ps all k).st.length:Int):=by omega
   have hk2:=HKX.out hlt;have HE:Hid (WkM X1.heap.size (X1.heap.size+1+1+1) (wkE ps all).st (wkE ps all).wy (wkE ps all).bad sv wv bv WV w0):=aA0 (by unfold wkE;rw[<-hk2];exact HWK.out)
   clear hk2 y0 y1;go_wp2_with fail
   go_ret
   exact⟨_,_,rfl,HBL.out,bw,sv,wv,bv,WV,HE.out⟩
def aEE(ps:List Pt):List ByteArray:=if aBA ps okP=true then(wkE ps (allM ps)).bad else[]
def aFC(ps:List Pt):Bool:=aBA ps okP&&(wkE ps (allM ps)).bad.isEmpty
theorem aE1{ps:List Pt}(h:aBA ps okP=true):okP (allM ps)=true∧0<ps.length∧ps.length<=4:=by
 unfold aBA at h;rw[Bool.and_eq_true] at h;have:=aKY h.1;exact⟨h.2,this.1,this.2.1⟩
theorem aKD(ps:List Pt):(aEE ps).length<=20∧∀j,(nth (aEE ps) j).size<=maxLen:=by
 have hnl:∀(l:List ByteArray),(∀t∈ l,t.size<=1048576)->∀j,(nth l j).size<=maxLen:=fun l h j=>by
  by_cases hj:j<l.length
  ·have e:nth l j=l[j]:=by simp only[nth,List.getD_eq_getElem?_getD,List.getElem?_eq_getElem hj];rfl
   rw[e];have:=h _ (List.getElem_mem hj);unfold maxLen;omega
  ·have e:nth l j=ByteArray.empty:=by simp only[nth,List.getD_eq_getElem?_getD,List.getElem?_eq_none (Nat.le_of_not_lt hj)];rfl
   rw[e];simp[maxLen]
 unfold aEE;split
 ·rename_i h;obtain⟨h1,h2,h3⟩:=aE1 h;have h4:=aVL h1 h2 h3;have h5:=h4.few h3 (aEB h1).2;exact⟨Nat.le_trans h4.blen h5,hnl _ h4.bsz⟩
 ·exact⟨by simp,fun j=>by simp[nth,maxLen]⟩
theorem lenB(l:List ByteArray):(((l.length:Nat):Int)==0)=decide (l=[]):=by
 cases l with
 |nil=>rfl
 |cons x r=>
  have h:(((x::r).length:Nat):Int)≠0:=by rw[List.length_cons];omega
  rw[beq_eq_false_iff_ne.2 h];simp
theorem aPB(FW:World)(tmps:Array Value)(x y:Value)(h2:tmps.getD 2 undef=x)(h3:tmps.getD 3 undef=y):
  (results Tryz.f16 tmps).run Tryz.prog FW=.ok (.tuple #[x,y]) FW:=by
 simp only[Array.getD_eq_getD_getElem?] at h2 h3;simp[results,Tryz.results16,go_sem,h2,h3]
set_option maxRecDepth 20000 in
set_option maxHeartbeats 1600000 in
theorem aMK(ps:List Pt)(w:World)(Lo B:Nat)(a:Option Addr)(c:Nat)(hR:aAP w (fun b=>Lo<=b∧b<B) ps a)(hB:B<=w.heap.size)(hz:∀i,i<ps.length->szP (pth ps i)<=1048576):
  Calls Tryz.prog 16 #[.slice a ps.length c] w fun e w'=>∃ra rc,e=.returned (.tuple #[.bool (aFC ps),.slice ra (aEE ps).length rc])∧Below w.heap.size w w'∧Strs w' (fun b=>w.heap.size<=b∧b<w'.heap.size) (aEE ps) ra:=by
 have HCM:=aA0 (aEF ps w Lo B a c hR hB hz);have hR':aAP w (·<B) ps a:=hR.sub fun b hb=>hb.2;have HLA:=aA0 (fun W B' av (h:aBA ps okP=true) (hb:Below w.heap.size w W) (hA:PRep W (·<B') (allM ps) av) (hB':B'<=W.heap.size) (hBB:B<=B')=>aRM ps (allM ps) W B' a c av (aE1 h).1 (aE1 h).2.1 (aE1 h).2.2 (aMU ps hz) ((hR'.under (hb.mono hB)).sub fun b (hb:b<B)=>show b<B' by omega) hA hB')
 have HRW:Hid (aEE ps=if aBA ps okP=true then(wkE ps (allM ps)).bad else[]):=aA0 rfl
 have HRB:Hid (aFC ps=(aBA ps okP&&(wkE ps (allM ps)).bad.isEmpty)):=aA0 rfl;have HFW:=aA0 (aKD ps);have HBB:=aA0 hB;clear hR hR' hB hz;generalize hch:aBA ps okP=ch at*;replace hch:=aA0 hch
 generalize ps.length=pl at*;go_enter Tryz.func16,Tryz.ntmps16
 go_upto_region 2 with(
  go_at_call 26
  refine HCM.out.mono ?_;rintro e w1 ⟨s0,a1,l1,c1,a2,l2,c2,at',ty,fl,code,rfl,hcode,b1,hok⟩)
 have z1:=b1.size;have b2:=aA6 w1 (.cells #[.string s0,.slice a1 l1 c1,.slice a2 l2 c2] 49) (.cells #[.int .i64 at',.string ty,.string fl,.int .i64 code] 51);have n0:((w1.alloc (.cells #[.string s0,.slice a1 l1 c1,.slice a2 l2 c2] 49)).alloc (.cells #[.int .i64 at',.string ty,.string fl,.int .i64 code] 51)).heap[w1.heap.size]?=some (.cells #[.string s0,.slice a1 l1 c1,.slice a2 l2 c2] 49 (0,0)):=by
  rw[(aA2 _ _).block _ (by simp)]
  exact aA3 _ _ rfl
 have n1:((w1.alloc (.cells #[.string s0,.slice a1 l1 c1,.slice a2 l2 c2] 49)).alloc (.cells #[.int .i64 at',.string ty,.string fl,.int .i64 code] 51)).heap[w1.heap.size+1]?=some (.cells #[.int .i64 at',.string ty,.string fl,.int .i64 code] 51 (0,0)):=aA3 _ _ (by simp)
 generalize (w1.alloc (.cells #[.string s0,.slice a1 l1 c1,.slice a2 l2 c2] 49)).alloc (.cells #[.int .i64 at',.string ty,.string fl,.int .i64 code] 51)=X at*;have bX:=b1.trans (b2.mono z1);obtain⟨x0,-⟩:=aA1 n0 0 (by simp)
 obtain⟨x1,-⟩:=aA1 n0 1 (by simp)
 obtain⟨y3,-⟩:=aA1 n1 3 (by simp)
 simp only[List.getElem_toArray,List.getElem_cons_zero,List.getElem_cons_succ] at x0 x1 y3;cases ch
 ·have hc:¬code=0:=fun h=>by have:=hcode.1 h;cases this
  have HE:Hid (aEE ps=[]):=aA0 (by rw[HRW.out,if_neg (by simp)])
  have HE2:Hid (aFC ps=false):=aA0 (by rw[HRB.out];rfl)
  have bE:=bX.alloc bX.size (.cells #[] 9);go_wp2_with fail
  refine bodyPost_ret (aPB _ _ _ _ rfl rfl) rfl ?_;rw[HE.out,HE2.out];exact⟨_,_,rfl,bE,aDS _ _ _⟩
 ·have hc:code=0:=hcode.2 rfl;subst hc;obtain⟨rfl,rfl,hP⟩:=hok rfl;have HE:Hid (aEE ps=(wkE ps (allM ps)).bad):=aA0 (by rw[HRW.out,if_pos rfl])
  have HE2:Hid (aFC ps=decide ((wkE ps (allM ps)).bad.length=0)):=aA0 (by rw[HRB.out];cases (wkE ps (allM ps)).bad<;>rfl)
  have hPX:PRep X (·<X.heap.size) (allM ps) (.agg #[.string ⟨#[97]⟩,.slice a1 (allM ps).types.length c1]):=by
   refine(hP.mono fun b hb=>b2.block b ?_).sub fun b hb=>?_
   ·have h1:=HBB.out;rcases hb with hb| hb
    ·omega
    ·exact hb.2
   ·show b<X.heap.size;have h1:=HBB.out;have h2:=b2.size;rcases hb with hb| hb<;>omega
  have HCA:=aA0 (HLA.out X X.heap.size _ (by first| rfl| trivial) bX hPX (Nat.le_refl _) (by have:=HBB.out;have:=bX.size;omega))
  clear hP hPX hok hcode n0 n1;generalize (allM ps).types.length=atl at*;rw[HE.out] at HFW;go_upto_region 5 with(
   go_at_call 27
   refine HCA.out.mono ?_;rintro e w2 ⟨M,base,rfl,hbase,hb2,sv,wv,bv,WV,hW⟩)
  generalize (wkE ps (allM ps)).bad=bad at*;obtain⟨ba,bc,rfl,hbS⟩:=hW.bads;have HM2:Hid (∀W,Below w2.heap.size w2 W->W.cell? ⟨M,2,none⟩=some (.slice ba bad.length bc)∧aFL W ba bad.length (bad.map Value.string)):=aA0 fun W hW2=>⟨(hW.keep hW2).cells.2.2.1,aGO (hbS.mono fun b hb=>hW2.block b hb.2.1)⟩;have b2w:=bX.trans (hb2.mono bX.size);have hfw:=HFW.out.1;have hbz:w.heap.size<=w2.heap.size:=b2w.size;obtain⟨i9,hi9,hx0,hx1,hx2⟩:=info_parts aRD;have bD:Below w2.heap.size w2 w2.drew:=(Below.refl _ _).drew;clear hW hbS x0 x1 y3 hb2 bX b2 b1 z1 hbase;refine wp_region_held_drew (S:=(fun W=>W.cell? ⟨M,2,none⟩=some (.slice ba bad.length bc))) (by kernel_rfl) (HM2.out _ bD).1 (fun hHeld=>?_)
  generalize w2.drew=wD at*;refine tkH 0 hHeld ?_;refine tkH 1 hHeld ?_;refine tkH 2 hHeld ?_;refine tkH 3 hHeld ?_;refine tkH 4 hHeld ?_;refine tkH 5 hHeld ?_;refine tkH 7 hHeld ?_;refine tkH 8 hHeld ?_;refine tkH 9 hHeld ?_;refine tkH 10 hHeld ?_;refine rdyH [6] ?_;refine rcH (fun K hK=>?_) AllReadyH.nil;go_simp
  have bE:=aA2 wD (.cells #[] 9);obtain⟨gB,hgB⟩:∃g,g=wD.heap.size:=⟨_,rfl⟩;have nB:=aA3 (w:=wD) (N:=gB) #[] 9 hgB.symm;have oB:(wD.alloc (.cells #[] 9)).ownsRow w2.heap.size 9 1 (.slice (some ⟨gB,0,none⟩) 0 0) 0 []:=⟨rfl,Or.inr ⟨gB,0,_,rfl,by rw[hgB];exact bD.size,nB,Nat.le_refl _,by unfold maxLen;omega,rfl,rfl⟩⟩
  have bD:=bD.trans (bE.mono bD.size);refine hK.out _ _ (HM2.out _ bD).1 (fun hHeld=>?_);clear hK K;try simp only[Act.put,sIA,sI0,sIS]
  rw[<-hgB];generalize wD.alloc (.cells #[] 9)=wE at*;clear hgB bE nB;refine rdyH [11] ?_;refine rcH (fun K hK=>?_) AllReadyH.nil;refine aBO rfl (.tmp 26) (.tmp 30) 33 rfl w2.heap.size 9 i9 (.string ByteArray.empty) 1 16 Tryz.underlying33 hi9 hx0 hx1 hx2 rfl (by decide) gB 0 0 [] rfl oB ba bad.length bc (bad.map Value.string) rfl (by simp) (HM2.out wE bD).2 (aEW _) (by unfold maxLen;omega) (by omega) bD.size ?_
  intro g1 cap1 wA o1 hgA horA;simp only[Nat.zero_add,List.nil_append] at o1 ⊢;have bD:=bD.grown hgA bD.size (fun b hb=>by cases hb;exact(oB.lt gB rfl).1)
  refine hK.out _ _ (HM2.out _ bD).1 (fun hHeld=>?_);clear hK K;try simp only[Act.put,sIA,sI0,sIS]
  clear hgA horA oB;refine tkH 12 hHeld ?_;refine tkH 13 hHeld ?_;refine wpAnyH_done (by kernel_rfl) ?_ _
  have HWY3:=aA0 (aGG (n:=0) (ns:=bad) (cap:=cap1) (g:=g1) (base:=w2.heap.size) (w:=wA) o1 HFW.out.2 (by unfold maxLen;omega))
  have bE:=b2w.trans (bD.mono hbz);go_wp2_with fail
  refine bodyPost_ret (aPB _ _ _ _ rfl rfl) rfl ?_;rw[HE.out,HE2.out];exact⟨some ⟨g1,0,none⟩,cap1,by simp[lenB],bE,HWY3.out.sub fun b hb=>⟨Nat.le_trans hbz hb.1,hb.2⟩⟩
end Go.Proofs.YtcebpkeiaiiphaaGreatDoor
