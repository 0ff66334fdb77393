import Derived.Test.YtokmgbidmnanpaaGreatDoorQ33
import Derived.Test.YtokmgbidmnanpaaGreatDoorQ32
import Derived.Test.YtokmgbidmnanpaaGreatDoorQ41
set_option linter.unusedSimpArgs false
set_option linter.unusedVariables false
namespace Go.Proofs.YtokmgbidmnanpaaGreatDoor
open Go.RowKit Go.Shelf Go.Maps
attribute [local go_sem] Oper.semAt_some
def aBM(f:Nat)(p:Pt)(ks:List Se):Option (Way× Int):=if okP p=true∧aDH f ks=true then chkM p f [] qry ks ks.length else some ([],1)
def wayO:Option (Way× Int)→Way
 |some x=>x.1
 |none=>[]
def aCE:Option (Way× Int)→Int
 |some x=>x.2
 |none=>0
structure OwnW(A:World)(lo:Nat)(way:Way)(a:Option Addr):Prop where
 blk:0<way.length→∃g,a=some ⟨g,0,none⟩∧lo≤g∧g<A.heap.size∧(∀i,i<way.length→A.cell? ⟨g,i,none⟩=some (.string (nth way i)))∧∀j,A.frozen? ⟨g,j,none⟩=false
 sz:∀i,(nth way i).size≤maxLen
 len:way.length≤1000
theorem OwnW.nil(A:World)(lo:Nat):OwnW A lo [] none:=⟨fun h=>by simp at h,fun i=>by simp[nth,maxLen],by simp⟩
theorem OwnW.keep{A B:World}{lo:Nat}{way:Way}{a:Option Addr}(h:OwnW A lo way a)(hsz:A.heap.size≤B.heap.size)(hb:∀b o,a=some ⟨b,0,none⟩→A.heap[b]?=some o→o.isCells=true→B.heap[b]?=some o):OwnW B lo way a:=⟨fun hn=>by
 obtain⟨g,e,h1,h2,h3,h4⟩:=h.blk hn
 obtain⟨o,k1,k2⟩:=aDT (h3 0 hn)
 have hh:B.heap[g]?=A.heap[g]?:=(hb g o e k1 k2).trans k1.symm
 exact⟨g,e,h1,by omega,fun i hi=>(World.cell?_of_block (a:=⟨g,i,none⟩) hh).trans (h3 i hi),fun j=>(World.frozen?_of_block (a:=⟨g,j,none⟩) hh).trans (h4 j)⟩,h.sz,h.len⟩
def aUC(w:World)(o:Option (Way× Int))(e:Ending)(w':World):Prop:=∃a c,e=.returned (.agg #[.slice a (wayO o).length c,.int .i64 (aCE o)])∧OwnW w' w.heap.size (wayO o) a∧Below w.heap.size w w'
structure ICk(p:Pt)(w:World)(pre:List (Way× Se× ByteArray))(O:Nat→Prop)(A:World):Prop where
 ok:aB5 p pre=none
 res:A.heap[w.heap.size+1]?=some (.cells #[.slice none 0 0,.int .i64 0] 48 (0,0))
 bel:Below w.heap.size w A
 own:∀b,O b↔b=w.heap.size+1
theorem ICk.looks(p:Pt)(w:World)(Y:Nat)(hY:w.heap.size+1<Y)(pre:List (Way× Se× ByteArray))(O:Nat→Prop):aCI Y O (ICk p w pre O):=fun A B h h1 h2 h3 h4 h5=>⟨h.ok,(h5 _ (Array.getElem?_eq_some_iff.1 h.res).1 (Or.inl hY)).trans h.res,⟨h2.trans h.bel.os,h3.trans h.bel.tape,h4.trans h.bel.output,Nat.le_trans h.bel.size h1,fun b hb=>(h5 b (Nat.lt_of_lt_of_le hb h.bel.size) (Or.inl (by omega))).trans (h.bel.block b hb)⟩,h.own⟩
theorem ICk.cells{p:Pt}{w:World}{pre:List (Way× Se× ByteArray)}{O:Nat→Prop}{A:World}(h:ICk p w pre O A):aDX O A:=fun b hb=>by
 rw[(h.own b).1 hb]
 exact⟨_,h.res,rfl⟩
def aQ4(p:Pt)(w:World)(xs:List (Way× Se× ByteArray))(A:World):Prop:=∃way code a c,aB5 p xs=some (way,code)∧A.heap[w.heap.size+1]?=some (.cells #[.slice a way.length c,.int .i64 code] 48 (0,0))∧OwnW A w.heap.size way a∧Below w.heap.size w A
theorem aQ4.still(p:Pt)(w:World)(xs:List (Way× Se× ByteArray))(Y:Nat)(hY:w.heap.size≤Y):aK8 Y (aQ4 p w xs):=by
 rintro A l o o' ⟨way,code,a,c,h1,h2,h3,h4⟩ hl ho1 ho2
 refine⟨way,code,a,c,h1,aCG ho1 ho2 h2,h3.keep (by simp) fun b ob hb k1 k2=>?_,h4.trans (aBZ _ _ (by omega))⟩
 exact(World.putObj_heap_other fun e=>by rw[e,ho1] at k1;cases k1;rw[ho2] at k2;cases k2).trans k1
theorem aJU{p:Pt}{pre xs:List (Way× Se× ByteArray)}{x:Way× Se× ByteArray}(h:pre++[x]<+:xs)(h0:aB5 p pre=none)(hx:aBI p x.2.2 x.2.1≠0):aB5 p xs=some (x.1,aBI p x.2.2 x.2.1):=by
 obtain⟨t,rfl⟩:=h
 rw[List.append_assoc,aE9,h0]
 simp only[List.singleton_append]
 rw[aDN,if_pos hx]
theorem aL1{p:Pt}{pre:List (Way× Se× ByteArray)}{x:Way× Se× ByteArray}(h0:aB5 p pre=none)(hx:aBI p x.2.2 x.2.1=0):aB5 p (pre++[x])=none:=by
 rw[aE9,h0]
 simp only
 rw[aDN,if_neg (by simpa using hx)]
 rfl
set_option maxRecDepth 20000 in
set_option maxHeartbeats 1600000 in
theorem aGN(f:Nat)(p:Pt)(ks:List Se)(P:Nat→Prop)(B:Nat)(ka:Option Addr)(kc:Nat)(v:Value)(w:World)(h:aJO f ks P B ka w)(hP:PRep w (·<w.heap.size) p v)(hz:szP p≤1048576):
  Calls Tryz.prog 32 #[v,.slice ka ks.length kc] w fun e w'=>aUC w (aBM f p ks) e w':=by
 have hP':=hP
 obtain⟨ta,tc,rfl,-,-,-⟩:=hP
 have bX:=aA5 w (.cells #[.string p.name,.slice ta p.types.length tc] 43) (.cells #[.slice none 0 0,.int .i64 0] 48)
 have zX:((w.alloc (.cells #[.string p.name,.slice ta p.types.length tc] 43)).alloc (.cells #[.slice none 0 0,.int .i64 0] 48)).heap.size=w.heap.size+1+1:=by simp
 have nP:((w.alloc (.cells #[.string p.name,.slice ta p.types.length tc] 43)).alloc (.cells #[.slice none 0 0,.int .i64 0] 48)).heap[w.heap.size]?=some (.cells #[.string p.name,.slice ta p.types.length tc] 43 (0,0)):=by
  rw[(aA2 _ _).block _ (by simp)]
  exact aA3 _ _ rfl
 have nR:((w.alloc (.cells #[.string p.name,.slice ta p.types.length tc] 43)).alloc (.cells #[.slice none 0 0,.int .i64 0] 48)).heap[w.heap.size+1]?=some (.cells #[.slice none 0 0,.int .i64 0] 48 (0,0)):=aA3 _ _ (by simp)
 have HC:=aA0 (fun W (hW:Below w.heap.size w W)=>aLB p W w.heap.size _ (hP'.under hW) hW.size hz)
 have HO:=aA0 (fun W (hW:Below w.heap.size w W)=>aQ7 f ks P B ka kc W (h.on hW))
 have HFIN:Hid (∀W a code,W.heap[w.heap.size+1]?=some (.cells #[.slice none 0 0,.int .i64 0] 48 (0,0))→Below w.heap.size w W→Below w.heap.size w ((W.setCell ⟨w.heap.size+1,0,none⟩ a).setCell ⟨w.heap.size+1,1,none⟩ code)∧((W.setCell ⟨w.heap.size+1,0,none⟩ a).setCell ⟨w.heap.size+1,1,none⟩ code).heap[w.heap.size+1]?=some (.cells #[a,code] 48 (0,0))):=aA0 fun W a code h1 h2=>by
  refine⟨(h2.setCell (p:=⟨w.heap.size+1,0,none⟩) (by show w.heap.size≤w.heap.size+1;omega) _).setCell (p:=⟨w.heap.size+1,1,none⟩) (by show w.heap.size≤w.heap.size+1;omega) _,?_⟩
  rw[aA9 (aA9 h1 0 a) 1 code]
  rfl
 cases ho:okP p
 ·have HE:Hid (aBM f p ks=some ([],1)):=aA0 (by rw[aBM,ho];rfl)
  rcases aNJ _ ho with⟨x,hx⟩| ⟨i,x,hx⟩<;>rw[hx] at HC
  all_goals
   refine(callsIn_wide (n:=3)).1 ?_
   refine callsIn_of_wp_marks Tryz.func32 rfl trivial ?_ rfl
   simp only[Tryz.ntmps32,List.size_toArray,List.length_cons,List.length_nil,Nat.reduceAdd,Nat.reduceSub,Array.replicate_succ,Array.replicate_zero,List.push_toArray,List.append_toArray,List.nil_append,List.cons_append]
   gi_wp2_with (refine⟨trivial,?_⟩;gi_at_call 68;refine(callsIn_wide.2 (HC.out _ bX)).mono ?_;rintro e w1 ⟨rfl,hb1⟩;have nR1:=(hb1.block _ (by omega)).trans nR;have b01:=bX.trans (hb1.mono (by omega));obtain⟨r0,f0⟩:=aA1 nR1 0 (by simp);obtain⟨r1,f1⟩:=aA1 nR1 1 (by simp))
   refine⟨trivial,?_⟩
   gi_wp2
   have hfin:=HFIN.out w1 (.slice none 0 0) (.int .i64 1) nR1 b01
   have cx0:=(aA1 hfin.2 0 (by simp)).1
   have cx1:=(aA1 hfin.2 1 (by simp)).1
   simp only[List.getElem_toArray,List.getElem_cons_zero,List.getElem_cons_succ] at cx0 cx1
   refine⟨.agg #[.slice none 0 0,.int .i64 1],by simp[results,Tryz.results32,go_sem,cx0,cx1],?_⟩
   rw[HE.out]
   exact⟨none,0,rfl,OwnW.nil _ _,hfin.1⟩
 rw[aQ9 _ ho] at HC
 cases hk:aDH f ks
 ·rw[hk] at HO
  have HE:Hid (aBM f p ks=some ([],1)):=aA0 (by rw[aBM,hk];simp)
  refine(callsIn_wide (n:=3)).1 ?_
  refine callsIn_of_wp_marks Tryz.func32 rfl trivial ?_ rfl
  simp only[Tryz.ntmps32,List.size_toArray,List.length_cons,List.length_nil,Nat.reduceAdd,Nat.reduceSub,Array.replicate_succ,Array.replicate_zero,List.push_toArray,List.append_toArray,List.nil_append,List.cons_append]
  gi_wp2_with (first
   |(refine⟨trivial,?_⟩;gi_at_call 68;refine(callsIn_wide.2 (HC.out _ bX)).mono ?_;rintro e w1 ⟨rfl,hb1⟩;have nR1:=(hb1.block _ (by omega)).trans nR;have b01:=bX.trans (hb1.mono (by omega)))
   |(refine⟨trivial,?_⟩;gi_at_call 14;refine(callsIn_wide.2 (HO.out w1 b01)).mono ?_;rintro e w2 ⟨rfl,hb2⟩;have nR2:=(hb2.block _ (by have:=hb1.size;omega)).trans nR1;have b02:=b01.trans (hb2.mono b01.size);obtain⟨r0,f0⟩:=aA1 nR2 0 (by simp);obtain⟨r1,f1⟩:=aA1 nR2 1 (by simp)))
  have hfin:=HFIN.out w2 (.slice none 0 0) (.int .i64 1) nR2 b02
  have cx0:=(aA1 hfin.2 0 (by simp)).1
  have cx1:=(aA1 hfin.2 1 (by simp)).1
  simp only[List.getElem_toArray,List.getElem_cons_zero,List.getElem_cons_succ] at cx0 cx1
  refine⟨.agg #[.slice none 0 0,.int .i64 1],by simp[results,Tryz.results32,go_sem,cx0,cx1],?_⟩
  rw[HE.out]
  exact⟨none,0,rfl,OwnW.nil _ _,hfin.1⟩
 rw[hk] at HO
 obtain⟨XS,hXS⟩:∃XS,XS=aAU f [] ks ks.length:=⟨_,rfl⟩
 have h5:∀x∈ XS,x.1.length≤5:=by
  have hq:askB f ks=true:=by
   simp only[aDH,Bool.and_eq_true] at hk
   exact hk.1
  have:=aJ7 f ks h.fit
  rw[hq,←hXS] at this
  have h2:aDG [] XS=true:=by
   cases hw:aDG [] XS
   ·rw[hw] at this;simp at this
   ·rfl
  exact fun x hx=>(((aE0 XS []).1 h2).1 x hx).1
 obtain⟨AS,hAS⟩:∃AS,AS=askF p [qry] XS:=⟨_,rfl⟩
 have HE:Hid (aBM f p ks=aB5 p AS):=aA0 (by
  rw[aBM,if_pos ⟨ho,hk⟩,hAS,hXS]
  exact((aFP p f [] qry ks _ [qry] (Nat.le_refl _) (by simp) rfl).1).symm)
 have HAS:=aA0 (And.intro hAS hXS)
 clear hAS hXS ho hk
 refine(callsIn_wide (n:=3)).1 ?_
 refine callsIn_of_wp_marks Tryz.func32 rfl trivial ?_ rfl
 simp only[Tryz.ntmps32,List.size_toArray,List.length_cons,List.length_nil,Nat.reduceAdd,Nat.reduceSub,Array.replicate_succ,Array.replicate_zero,List.push_toArray,List.append_toArray,List.nil_append,List.cons_append]
 gi_wp2_with (first
  |(refine⟨trivial,?_⟩;gi_at_call 68;refine(callsIn_wide.2 (HC.out _ bX)).mono ?_;rintro e w1 ⟨rfl,hb1⟩;have b01:=bX.trans (hb1.mono (by omega));have nP1:=(hb1.block _ (by omega)).trans nP;have nR1:=(hb1.block _ (by omega)).trans nR)
  |(refine⟨trivial,?_⟩;gi_at_call 14;refine(callsIn_wide.2 (HO.out w1 b01)).mono ?_;rintro e w2 ⟨rfl,hb2⟩;have z1:=hb1.size;have nR2:=(hb2.block _ (by omega)).trans nR1;have nP2:=(hb2.block _ (by omega)).trans nP1;have b02:=b01.trans (hb2.mono b01.size);obtain⟨p0,-⟩:=aA1 nP2 0 (by simp);obtain⟨p1,-⟩:=aA1 nP2 1 (by simp))
  |(refine⟨trivial,?_⟩;gi_at_call 64;refine(callsIn_wide.2 (aIK w2 _ _ ka ks.length kc)).mono ?_;rintro e w' ⟨rfl,rfl⟩))
 obtain⟨Y,hY⟩:∃Y,Y=(w2.alloc (.cells #[.string p.name,.slice ta p.types.length tc] 43)).alloc (.cells #[.slice ka ks.length kc] 23):=⟨_,rfl⟩
 have z2:=hb2.size
 have zY:Y.heap.size=w2.heap.size+1+1:=by rw[hY];simp
 have bY:Below w2.heap.size w2 Y:=by rw[hY];exact aA5 _ _ _
 have pY:Y.heap[w2.heap.size]?=some (.cells #[.string p.name,.slice ta p.types.length tc] 43 (0,0)):=by
  rw[hY,(aA2 _ _).block _ (by simp)]
  exact aA3 _ _ rfl
 have sY:Y.heap[w2.heap.size+1]?=some (.cells #[.slice ka ks.length kc] 23 (0,0)):=by
  rw[hY]
  exact aA3 _ _ (by simp)
 have rY:=(bY.block _ (by omega)).trans nR2
 have bwY:=b02.trans (bY.mono b02.size)
 rw[←hY]
 clear hY HC HO nP nP1 nR nR1 p0 p1
 refine aG8 (w:=Y) rfl (by omega) (gf:=102) (lb:=#[.pointer (some ⟨w2.heap.size+1,0,none⟩),.pointer (some ⟨w2.heap.size,0,none⟩)]) rfl trivial (enters_of Tryz.func102 (by kernel_rfl) rfl)
  AS (fun pre O x ar A=>ArgA w.heap.size O p x ar A∧pre++[x]<+:AS) ?ps (ICk p w) ?looks ?cells (aQ4 p w AS) ?xstill
  (fun b=>b=w.heap.size+1) ?start ?seq
  (fun pre O x ar a' A=>∃(g wc:Nat) (sa:Option Addr) (sc:Nat) (na:Option Addr) (nc sx:Nat),pre++[x]<+:AS∧a'={ tmps:=#[.agg #[.string p.name,.slice ta p.types.length tc],.slice ka ks.length kc,.pointer (some ⟨w.heap.size,0,none⟩),undef,.pointer (some ⟨w.heap.size+1,0,none⟩),.slice (some ⟨g,0,none⟩) x.1.length wc,.pointer (some ⟨sx,0,none⟩),undef,.agg #[.string p.name,.slice ta p.types.length tc],.nilIface,.bool false,.bool false,.slice ka ks.length kc,.bool true,.bool false,.bool false,undef,.agg #[.string p.name,.slice ta p.types.length tc],.slice ka ks.length kc,.func (.func 102) #[] #[.pointer (some ⟨w2.heap.size+1,0,none⟩),.pointer (some ⟨w2.heap.size,0,none⟩)],.slice (some ⟨g,0,none⟩) x.1.length wc,.agg #[.string x.2.1.al,.string x.2.1.name,.bool x.2.1.one,.int .i64 x.2.1.id,.slice sa x.2.1.kids.length sc,.string x.2.2,.string (fldF p x.2.2 x.2.1.name).name,.string (fldF p x.2.2 x.2.1.name).of,.bool (fldF p x.2.2 x.2.1.name).list,.bool (fldF p x.2.2 x.2.1.name).must,.bool (fldF p x.2.2 x.2.1.name).far,.bool (fldF p x.2.2 x.2.1.name).hidden,.bool (fldF p x.2.2 x.2.1.name).shared,.slice na (fldF p x.2.2 x.2.1.name).needs.length nc,.bool (fldB p x.2.2 x.2.1.name&&!(fldF p x.2.2 x.2.1.name).hidden)],undef,undef,undef,undef,undef,undef,undef,undef],defers:=[] }∧(OwnW A w.heap.size x.1 (some ⟨g,0,none⟩)∧¬O g)∧A.heap[sx]?=some (.cells #[.string x.2.1.al,.string x.2.1.name,.bool x.2.1.one,.int .i64 x.2.1.id,.slice sa x.2.1.kids.length sc,.string x.2.2,.string (fldF p x.2.2 x.2.1.name).name,.string (fldF p x.2.2 x.2.1.name).of,.bool (fldF p x.2.2 x.2.1.name).list,.bool (fldF p x.2.2 x.2.1.name).must,.bool (fldF p x.2.2 x.2.1.name).far,.bool (fldF p x.2.2 x.2.1.name).hidden,.bool (fldF p x.2.2 x.2.1.name).shared,.slice na (fldF p x.2.2 x.2.1.name).needs.length nc,.bool (fldB p x.2.2 x.2.1.name&&!(fldF p x.2.2 x.2.1.name).hidden)] 95 (0,0))) ?astill ?assign ?body ?done ?stop
 case ps=>
  rintro pre O x ar A ⟨⟨g,wc,sa,sc,na,nc,rfl,-⟩,-⟩
  rfl
 case looks=>exact fun pre O=>ICk.looks p w _ (by omega) pre O
 case cells=>exact fun pre O A h=>h.cells
 case xstill=>exact aQ4.still p w AS _ (by omega)
 case start=>exact⟨rfl,rY,bwY,fun b=>Iff.rfl⟩
 case seq=>
  intro l J Jx W hb hJl hXs hJc hy h0
  have hbW:=bwY.trans (hb.mono bwY.size)
  have zW:=hb.size
  have:=aHT p (.string p.name) (.slice ta p.types.length tc) f ks l J Jx w.heap.size (3- 1) _ W ka kc (w2.heap.size+1) w2.heap.size hJl hXs hJc (fun n pre O x ar A hJ hp hA=>aEC (hy pre O x ar A hJ ⟨hA,by rw[HAS.out.1,HAS.out.2];exact hp⟩)) h.fit h.small ((h.on hbW).rep.sub fun b hb=>by have:=(h.apart b hb).1;have:=h.le;show b<_;omega) (hP'.under hbW) hbW.size h.few (by rw[←HAS.out.2];exact h5) h0 (by rintro b rfl;omega) ((hb.cell (p:=⟨w2.heap.size+1,0,none⟩) (by show w2.heap.size+1<_;omega)).trans (aA1 sY 0 (by simp)).1) ((hb.cell (p:=⟨w2.heap.size,0,none⟩) (by show w2.heap.size<_;omega)).trans (aA1 pY 0 (by simp)).1) ((hb.cell (p:=⟨w2.heap.size,1,none⟩) (by show w2.heap.size<_;omega)).trans (aA1 pY 1 (by simp)).1)
  rw[←HAS.out.2,←HAS.out.1] at this
  exact this
 case astill=>
  rintro pre O x ar a' A l o o' ⟨g,wc,sa,sc,na,nc,sx,h1,h2,h3,h4⟩ hl ho1 ho2
  exact⟨g,wc,sa,sc,na,nc,sx,h1,h2,⟨h3.1.keep (by simp) fun b ob hb k1 k2=>(World.putObj_heap_other fun e=>by rw[e,ho1] at k1;cases k1;rw[ho2] at k2;cases k2).trans k1,h3.2⟩,aCG ho1 ho2 h4⟩
 case assign=>
  rintro l pre O x ar A K ⟨⟨g,wc,sa,sc,na,nc,rfl,h3,h4,h6,h7,h8,h9,h10,-⟩,hp⟩ hK
  have HK:=aA0 hK
  have hx5:x.1.length≤1000:=by
   obtain⟨t,ht⟩:=hp
   have hm:x∈ askF p [qry] XS:=by rw[←HAS.out.1,←ht];simp
   obtain⟨y,hy,e⟩:=aPF p XS _ x hm
   have:=h5 y hy
   rw[e] at this
   omega
  have hOW:OwnW A w.heap.size x.1 (some ⟨g,0,none⟩):=⟨fun hn=>⟨g,rfl,h6.1,h7,fun i hi=>by
   obtain⟨b,off,e,-,hc⟩:=h4.1 h10
   simp only[Option.some.injEq,Addr.mk.injEq,and_true] at e
   obtain⟨rfl,rfl⟩:=e
   have:=hc i hi
   rwa [Nat.zero_add] at this,h8⟩,h4.2.1,hx5⟩
  clear hK
  unfold aHO
  gi_wp2
  refine HK.out _ _ (aA2 A _) ⟨g,wc,sa,sc,na,nc,A.heap.size,hp,rfl,⟨hOW.keep (by simp) fun b ob hb k1 k2=>((aA2 A _).block b (Array.getElem?_eq_some_iff.1 k1).1).trans k1,h6.2⟩,aA3 _ _ rfl⟩
 case done=>
  rintro D O W hD h2 hK
  have HH:=aA0 h2
  obtain⟨r0,f0⟩:=aA1 h2.res 0 (by simp)
  obtain⟨r1,f1⟩:=aA1 h2.res 1 (by simp)
  have hDN:D≠w.heap.size+1:=by omega
  have hfin:=HFIN.out W (.slice none 0 0) (.int .i64 0) h2.res h2.bel
  have hK':((W.setCell ⟨w.heap.size+1,0,none⟩ (.slice none 0 0)).setCell ⟨w.heap.size+1,1,none⟩ (.int .i64 0)).heap[D]?=some (.deferred (some [])):=(Below.heap_setCell _ _ _ _ hDN).trans ((Below.heap_setCell _ _ _ _ hDN).trans hK)
  have hbx:(((W.setCell ⟨w.heap.size+1,0,none⟩ (.slice none 0 0)).setCell ⟨w.heap.size+1,1,none⟩ (.int .i64 0)).putObj D (.deferred none)).heap[w.heap.size+1]?=some (.cells #[.slice none 0 0,.int .i64 0] 48 (0,0)):=(World.putObj_heap_other (Ne.symm hDN)).trans hfin.2
  have cx0:=(aA1 hbx 0 (by simp)).1
  have cx1:=(aA1 hbx 1 (by simp)).1
  simp only[List.getElem_toArray,List.getElem_cons_zero,List.getElem_cons_succ] at cx0 cx1
  have HX:=aA0 (And.intro hfin.1 hK')
  clear h2 hfin hbx hK'
  gi_wp2
  refine⟨by simp,.inl ⟨_,_,rfl,run_takeDeferred HX.out.2,.agg #[.slice none 0 0,.int .i64 0],by simp[results,Tryz.results32,go_sem,cx0,cx1],?_⟩⟩
  rw[HE.out,HH.out.ok]
  exact⟨none,0,rfl,OwnW.nil _ _,HX.out.1.trans (aBZ _ _ (by omega))⟩
 case stop=>
  rintro D W hD ⟨way,code,a,c,h1,h2,h3,h4⟩ hK
  have hDN:D≠w.heap.size+1:=by omega
  have hbx:(W.putObj D (.deferred none)).heap[w.heap.size+1]?=some (.cells #[.slice a way.length c,.int .i64 code] 48 (0,0)):=(World.putObj_heap_other (Ne.symm hDN)).trans h2
  have cx0:=(aA1 hbx 0 (by simp)).1
  have cx1:=(aA1 hbx 1 (by simp)).1
  simp only[List.getElem_toArray,List.getElem_cons_zero,List.getElem_cons_succ] at cx0 cx1
  have HX:=aA0 (And.intro h1 (And.intro h3 h4))
  clear h1 h2 h3 h4 hbx
  gi_wp2
  refine⟨by simp,.inl ⟨_,_,rfl,run_takeDeferred hK,.agg #[.slice a way.length c,.int .i64 code],by simp[results,Tryz.results32,go_sem,cx0,cx1],?_⟩⟩
  rw[HE.out,HX.out.1]
  exact⟨a,c,rfl,HX.out.2.1.keep (by simp) fun b ob hb k1 k2=>(World.putObj_heap_other fun e=>by rw[e,hK] at k1;cases k1;cases k2).trans k1,HX.out.2.2.trans (aBZ _ _ (by omega))⟩
 case body=>
  rintro l pre O x ar a' A h2 ⟨g,wc,sa,sc,na,nc,sx,hp,rfl,h3,h9⟩
  clear zY
  have d0:=(aA1 h9 0 (by simp)).1
  have d1:=(aA1 h9 1 (by simp)).1
  have d2:=(aA1 h9 2 (by simp)).1
  have d3:=(aA1 h9 3 (by simp)).1
  have d4:=(aA1 h9 4 (by simp)).1
  have d5:=(aA1 h9 5 (by simp)).1
  have d6:=(aA1 h9 6 (by simp)).1
  have d7:=(aA1 h9 7 (by simp)).1
  have d8:=(aA1 h9 8 (by simp)).1
  have d9:=(aA1 h9 9 (by simp)).1
  have d10:=(aA1 h9 10 (by simp)).1
  have d11:=(aA1 h9 11 (by simp)).1
  have d12:=(aA1 h9 12 (by simp)).1
  have d13:=(aA1 h9 13 (by simp)).1
  have d14:=(aA1 h9 14 (by simp)).1
  simp only[List.getElem_toArray,List.getElem_cons_zero,List.getElem_cons_succ] at d0 d1 d2 d3 d4 d5 d6 d7 d8 d9 d10 d11 d12 d13 d14
  have HF:=aA0 (fun W=>aQN x.2.2 x.2.1 sa sc (fldF p x.2.2 x.2.1.name) na nc (fldB p x.2.2 x.2.1.name&&!(fldF p x.2.2 x.2.1.name).hidden) W)
  have HH:=aA0 h2
  have HW:=aA0 h3
  have HP:=aA0 hp
  obtain⟨code,hcode⟩:∃c,c=aBI p x.2.2 x.2.1:=⟨_,rfl⟩
  have HF:Hid (∀W,Calls Tryz.prog 69 #[.agg #[.string x.2.1.al,.string x.2.1.name,.bool x.2.1.one,.int .i64 x.2.1.id,.slice sa x.2.1.kids.length sc,.string x.2.2,.string (fldF p x.2.2 x.2.1.name).name,.string (fldF p x.2.2 x.2.1.name).of,.bool (fldF p x.2.2 x.2.1.name).list,.bool (fldF p x.2.2 x.2.1.name).must,.bool (fldF p x.2.2 x.2.1.name).far,.bool (fldF p x.2.2 x.2.1.name).hidden,.bool (fldF p x.2.2 x.2.1.name).shared,.slice na (fldF p x.2.2 x.2.1.name).needs.length nc,.bool (fldB p x.2.2 x.2.1.name&&!(fldF p x.2.2 x.2.1.name).hidden)]] W fun e w'=>e=.returned (.int .i64 code)∧Below W.heap.size W w'):=aA0 fun W=>by
   rw[hcode]
   exact HF.out W
  have HCO:=aA0 hcode
  obtain⟨r0,f0⟩:=aA1 h2.res 0 (by simp)
  have zA:=h2.bel.size
  clear h2 h3 hp hcode h9
  by_cases hc:code=0
  ·subst hc
   gi_wp2
   refine⟨trivial,(CallsIn.inRound l (callsIn_wide.2 (HF.out A))).mono ?_⟩
   rintro e B ⟨rfl,hbB⟩
   have hkf:KeepsFrom Y.heap.size A B:=KeepsOthers.from ⟨hbB.size,fun k o hk _=>(hbB.block k (Array.getElem?_eq_some_iff.1 hk).1).trans hk⟩ _
   have HT:=aA0 (show Told (ICk p w) (aQ4 p w AS) O pre x A true B from Or.inl ⟨rfl,O,⟨aL1 HH.out.ok HCO.out.symm,(hbB.block _ (Array.getElem?_eq_some_iff.1 HH.out.res).1).trans HH.out.res,HH.out.bel.trans (hbB.mono HH.out.bel.size),HH.out.own⟩,aBL.below hbB,fun b hb=>Or.inl hb⟩)
   gi_wp2
   exact HT.out
  ·have hcb:(code==0)=false:=by simpa using hc
   gi_wp2
   refine⟨trivial,(CallsIn.inRound l (callsIn_wide.2 (HF.out A))).mono ?_⟩
   rintro e B ⟨rfl,hbB⟩
   have nB:=(hbB.block _ (Array.getElem?_eq_some_iff.1 HH.out.res).1).trans HH.out.res
   obtain⟨r0,f0⟩:=aA1 nB 0 (by simp)
   obtain⟨r1,f1⟩:=aA1 nB 1 (by simp)
   have hfin:=HFIN.out B (.slice (some ⟨g,0,none⟩) x.1.length wc) (.int .i64 code) nB (HH.out.bel.trans (hbB.mono HH.out.bel.size))
   have hko:KeepsOthers A ((B.setCell ⟨w.heap.size+1,0,none⟩ (.slice (some ⟨g,0,none⟩) x.1.length wc)).setCell ⟨w.heap.size+1,1,none⟩ (.int .i64 code)):=(KeepsOthers.trans (B:=B) ⟨hbB.size,fun k o hk _=>(hbB.block k (Array.getElem?_eq_some_iff.1 hk).1).trans hk⟩ (KeepsOthers.setCell _ _ _)).trans (KeepsOthers.setCell _ _ _)
   have hkf:KeepsFrom Y.heap.size A _:=hko.from _
   have HT:=aA0 (show aQ4 p w AS ((B.setCell ⟨w.heap.size+1,0,none⟩ (.slice (some ⟨g,0,none⟩) x.1.length wc)).setCell ⟨w.heap.size+1,1,none⟩ (.int .i64 code)) from
    ⟨x.1,code,_,wc,by rw[HCO.out];exact aJU HP.out HH.out.ok (by rw[←HCO.out];exact hc),hfin.2,HW.out.1.keep (by simp only[aAZ];exact hbB.size) fun b ob hb k1 k2=>by
     simp only[Option.some.injEq,Addr.mk.injEq,and_true] at hb
     subst hb
     have hne:g≠w.heap.size+1:=fun e=>HW.out.2 ((HH.out.own g).2 e)
     rw[Below.heap_setCell _ _ _ _ hne,Below.heap_setCell _ _ _ _ hne,hbB.block g (Array.getElem?_eq_some_iff.1 k1).1,k1],hfin.1⟩)
   clear hfin nB
   gi_wp2
   exact Or.inr ⟨rfl,HT.out⟩
end Go.Proofs.YtokmgbidmnanpaaGreatDoor
