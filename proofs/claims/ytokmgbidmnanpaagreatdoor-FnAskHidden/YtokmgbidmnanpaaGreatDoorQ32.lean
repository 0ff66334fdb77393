import Derived.Test.YtokmgbidmnanpaaGreatDoorQ29
import Derived.Maps.OwnIn
import Derived.Deep.AppendLies
import Derived.Test.YtokmgbidmnanpaaGreatDoorQ30
import Derived.Test.YtokmgbidmnanpaaGreatDoorQ19
import Derived.Test.YtokmgbidmnanpaaGreatDoorQ9
import Derived.Test.YtokmgbidmnanpaaGreatDoorQ26
set_option linter.unusedSimpArgs false
set_option linter.unusedVariables false
namespace Go.Proofs.YtokmgbidmnanpaaGreatDoor
open Go.RowKit Go.Shelf Go.Maps
attribute [local go_sem] Oper.semAt_some
structure IOk(w:World)(pre:List (Way× Se))(O:Nat→Prop)(ts:List ByteArray)(wv:Value)(A:World):Prop where
 gat:Gat w.heap.size (w.heap.size+1) ts wv A
 texts:ts.map ByteArray.toList=pre.map fun x=>aCA x.1
 sizes:∀t∈ ts,t.size≤1048577000
 res:A.heap[w.heap.size]?=some (.cells #[.bool false] 4 (0,0))
 walk:aDG [] pre=true
 bel:Below w.heap.size w A
 own:∀b,O b↔b=w.heap.size∨b=w.heap.size+1∨wv.ownBlock=some b
theorem IOk.of{w:World}{pre:List (Way× Se)}{O:Nat→Prop}{ts:List ByteArray}{wv:Value}{A B:World}(h:IOk w pre O ts wv A)(hg:Gat w.heap.size (w.heap.size+1) ts wv B)(hr:B.heap[w.heap.size]?=some (.cells #[.bool false] 4 (0,0)))(hb:Below w.heap.size w B):IOk w pre O ts wv B:=
 ⟨hg,h.texts,h.sizes,hr,h.walk,hb,h.own⟩
def NoOk(w:World)(XS:List (Way× Se))(A:World):Prop:=A.heap[w.heap.size]?=some (.cells #[.bool false] 4 (0,0))∧Below w.heap.size w A∧aDG [] XS=false
theorem aCG{A:World}{l k:Nat}{o o':Obj}{c:Array Value}{t:TypeId}{f:Nat× Nat}(hl:A.heap[l]?=some o)(ho:o.isCells=false)(hk:A.heap[k]?=some (Obj.cells c t f)):(A.putObj l o').heap[k]?=some (Obj.cells c t f):=by
 have hne:k≠l:=by intro e;rw[e,hl] at hk;cases hk;cases ho
 exact(World.putObj_heap_other hne).trans hk
theorem aKY{A:World}{l:Nat}{o o':Obj}{ns:List ByteArray}{a:Option Addr}(hl:A.heap[l]?=some o)(ho:o.isCells=false)(h:Strs A (·<A.heap.size) ns a):Strs (A.putObj l o') (·<(A.putObj l o').heap.size) ns a:=by
 refine⟨fun hn=>?_,h.2⟩
 obtain⟨b,off,e,hb,hc⟩:=h.1 hn
 refine⟨b,off,e,by simpa using hb,fun i hi=>?_⟩
 obtain⟨ob,h1,h2⟩:=aDT (hc i hi)
 have hne:b≠l:=by intro e;rw[e,hl] at h1;cases h1;rw[ho] at h2;cases h2
 exact(World.cell?_of_block (w:=A) (a:=⟨b,off+i,none⟩) (World.putObj_heap_other hne)).trans (hc i hi)
theorem IOk.next{w:World}{pre:List (Way× Se)}{O:Nat→Prop}{ts:List ByteArray}{wv v':Value}{A W W3:World}{x:Way× Se}{t:ByteArray}(h:IOk w pre O ts wv A)(hb:Below A.heap.size A W)(hgr:W.grownBy W3 wv.ownBlock)
  (hown:W3.ownsRow w.heap.size 9 1 v' (ts.length+1) (ts.map Value.string++[.string t])) (hat:v'.ownBlock=wv.ownBlock∨v'.ownBlock=some W.heap.size) (ht:t.toList=aCA x.1) (hts:t.size≤1048577000) (hs:aJ4 (pre.map fun x=>aCA x.1) x=true):
  (∃O',(∃ts wv,IOk w (pre++[x]) O' ts wv (W3.setCell ⟨w.heap.size+1,0,none⟩ v'))∧aBL O A (W3.setCell ⟨w.heap.size+1,0,none⟩ v')∧∀b,O' b→O b∨A.heap.size≤b)∧KeepsOthers A (W3.setCell ⟨w.heap.size+1,0,none⟩ v'):=by
 have lN:=(Array.getElem?_eq_some_iff.1 h.res).1
 have lN1:=(Array.getElem?_eq_some_iff.1 h.gat.1).1
 have zW:=hb.size
 have zA:=h.bel.size
 have hk:∀(k:Nat) (o:Obj),A.heap[k]?=some o→wv.ownBlock≠some k→W3.heap[k]?=some o:=fun k o hk hne=>by
  have h1:=(hb.block k (Array.getElem?_eq_some_iff.1 hk).1).trans hk
  rw[hgr.block k (Array.getElem?_eq_some_iff.1 h1).1 (fun e=>hne e.symm)]
  exact h1
 have hnN:wv.ownBlock≠some w.heap.size:=fun e=>by
  rcases h.gat.2.1.2 with⟨rfl,_⟩| ⟨g,cap,cur,rfl,hbg,hg,_⟩
  ·simp[Value.ownBlock] at e
  ·simp only[Value.ownBlock,Option.some.injEq] at e
   rw[e,h.res] at hg
   simp only[Option.some.injEq,Obj.cells.injEq] at hg
   exact absurd hg.2.1 (by decide)
 have hv1:v'.ownBlock≠some (w.heap.size+1):=fun e=>by
  rcases hat with e2| e2
  ·exact h.gat.2.2 (by rw[←e2,e])
  ·rw[e2] at e
   simp only[Option.some.injEq] at e
   omega
 have hset:∀(k:Nat),k≠w.heap.size+1→(W3.setCell ⟨w.heap.size+1,0,none⟩ v').heap[k]?=W3.heap[k]?:=fun k hk=>Below.heap_setCell _ _ _ _ hk
 have hbl:∀b,wv.ownBlock=some b→w.heap.size≤b:=fun b hb=>(h.gat.2.1.lt b hb).1
 refine⟨⟨fun b=>b=w.heap.size∨b=w.heap.size+1∨v'.ownBlock=some b,⟨ts++[t],v',⟨⟨?_,?_,hv1⟩,?_,?_,?_,aRF h.walk hs,?_,fun b=>Iff.rfl⟩⟩,⟨?_,fun b o hO hc hcl=>?_⟩,fun b hO=>?_⟩,⟨?_,fun k o hko ho=>?_⟩⟩
 ·rw[aA9 (hk _ _ h.gat.1 h.gat.2.2)];rfl
 ·have:=hown.kept (row:=some (w.heap.size+1)) (w':=W3.setCell ⟨w.heap.size+1,0,none⟩ v') ⟨rfl,rfl,rfl,by simp[World.setCell],fun k _ hk=>hset k (fun e=>hk (by rw[e]))⟩ (Or.inr hv1)
  simpa using this
 ·simp[h.texts,ht]
 ·intro u hu
  rcases List.mem_append.1 hu with hu| hu
  ·exact h.sizes u hu
  ·rw[List.mem_singleton.1 hu];exact hts
 ·rw[hset _ (by omega)]
  exact hk _ _ h.res hnN
 ·exact(((h.bel.trans (hb.mono zA)).grown hgr (by omega) hbl)).setCell (p:=⟨w.heap.size+1,0,none⟩) (by show w.heap.size≤w.heap.size+1;omega) _
 ·have:=hgr.size
  simp;omega
 ·have hn1:b≠w.heap.size+1:=fun e=>hO ((h.own b).2 (Or.inr (Or.inl e)))
  rw[hset _ hn1]
  exact hk _ _ hc (fun e=>hO ((h.own b).2 (Or.inr (Or.inr e))))
 ·rcases hO with rfl| rfl| hO
  ·exact Or.inl ((h.own _).2 (Or.inl rfl))
  ·exact Or.inl ((h.own _).2 (Or.inr (Or.inl rfl)))
  ·rcases hat with e2| e2
   ·exact Or.inl ((h.own b).2 (Or.inr (Or.inr (by rw[←e2,hO]))))
   ·rw[e2] at hO
    simp only[Option.some.injEq] at hO
    exact Or.inr (by omega)
 ·have:=hgr.size
  simp;omega
 ·have hn1:k≠w.heap.size+1:=fun e=>by rw[e,h.gat.1] at hko;cases hko;cases ho
  rw[hset _ hn1]
  refine hk _ _ hko (fun e=>?_)
  rcases h.gat.2.1.2 with⟨rfl,_⟩| ⟨g,cap,cur,rfl,hbg,hg,_⟩
  ·simp[Value.ownBlock] at e
  ·simp only[Value.ownBlock,Option.some.injEq] at e
   rw[e,hko] at hg
   cases hg
   cases ho
set_option maxRecDepth 20000 in
set_option maxHeartbeats 3200000 in
theorem aL7(f:Nat)(ks:List Se)(w:World)(B:Nat)(ka:Option Addr)(kc:Nat)(hf:FitS f ks)(hsm:aEJ f ks)(hfb:f≤1000000000)(hR:aAA w (·<B) ks ka)(hB:B≤w.heap.size):
  Calls Tryz.prog 45 #[.slice ka ks.length kc] w fun e w'=>e=.returned (.bool (!ks.isEmpty&&aDG [] (aAU f [] ks ks.length)))∧Below w.heap.size w w':=by
 obtain⟨XS,hXS⟩:∃XS,XS=aAU f [] ks ks.length:=⟨_,rfl⟩
 rw[←hXS]
 have HXS:=aA0 hXS
 clear hXS
 refine(callsIn_wide (n:=3)).1 ?_
 refine callsIn_of_wp_marks Tryz.func45 rfl trivial ?_ rfl
 simp only[Tryz.ntmps45,List.size_toArray,List.length_cons,List.length_nil,Nat.reduceAdd,Nat.reduceSub,Array.replicate_succ,Array.replicate_zero,List.push_toArray,List.append_toArray,List.nil_append,List.cons_append]
 gi_wp2_with (refine⟨trivial,?_⟩;gi_at_call 42;refine(callsIn_wide.2 (aKN _ ka ks.length kc)).mono ?_;rintro e w' ⟨rfl,rfl⟩)
 obtain⟨Y,hY⟩:∃Y,Y=((w.alloc (.cells #[.bool false] 4)).alloc (.cells #[.slice none 0 0] 29)).alloc (.cells #[.slice ka ks.length kc] 23):=⟨_,rfl⟩
 have zY:Y.heap.size=w.heap.size+1+1+1:=by rw[hY];simp
 have bY:Below w.heap.size w Y:=by rw[hY];exact(((Below.refl _ _).alloc (Nat.le_refl _) _).alloc (by simp) _).alloc (by simp;omega) _
 have rY:Y.heap[w.heap.size]?=some (.cells #[.bool false] 4 (0,0)):=by
  rw[hY,(aA2 _ _).block _ (by simp;omega),(aA2 _ _).block _ (by simp)]
  exact aA3 _ _ rfl
 have wY:Y.heap[w.heap.size+1]?=some (.cells #[.slice none 0 0] 29 (0,0)):=by
  rw[hY,(aA2 _ _).block _ (by simp)]
  exact aA3 _ _ (by simp)
 have sY:Y.heap[w.heap.size+1+1]?=some (.cells #[.slice ka ks.length kc] 23 (0,0)):=by
  rw[hY]
  exact aA3 _ _ (by simp)
 rw[←hY]
 clear hY
 refine aQA (w:=Y) rfl (by omega) (gf:=79) (lb:=#[.pointer (some ⟨w.heap.size+1+1,0,none⟩)]) rfl trivial (enters_of Tryz.func79 (by kernel_rfl) rfl)
  XS (fun pre x ar A=>ArgT x ar A∧pre++[x]<+:XS) ?ps (fun pre O A=>∃ts wv,IOk w pre O ts wv A) ?still ?grows ?lt (NoOk w XS) ?xstill
  (fun b=>b=w.heap.size∨b=w.heap.size+1) ?start ?seq
  (fun pre x ar a' A=>∃(wa:Option Addr) (wc:Nat) (sa:Option Addr) (sc sb:Nat),pre++[x]<+:XS∧a'={ tmps:=#[.slice ka ks.length kc,undef,.pointer (some ⟨w.heap.size,0,none⟩),.pointer (some ⟨w.heap.size+1,0,none⟩),.slice wa x.1.length wc,.pointer (some ⟨sb,0,none⟩),undef,.slice ka ks.length kc,.func (.func 79) #[] #[.pointer (some ⟨w.heap.size+1+1,0,none⟩)],.slice wa x.1.length wc,.agg #[.string x.2.al,.string x.2.name,.bool x.2.one,.int .i64 x.2.id,.slice sa x.2.kids.length sc],undef,undef,undef,undef,undef,undef,undef,undef,undef,undef,undef,undef,undef,undef,undef,undef,undef,undef,undef,undef,undef,undef,undef,undef,undef],defers:=[] }∧x.1.length≤wc∧Strs A (·<A.heap.size) x.1 wa∧x.2.al.size≤maxLen∧x.2.name.size≤maxLen∧(∀a∈ x.1,a.size≤1048576)∧x.1≠[]∧
   A.heap[sb]?=some (.cells #[.string x.2.al,.string x.2.name,.bool x.2.one,.int .i64 x.2.id,.slice sa x.2.kids.length sc] 56 (0,0))) ?astill ?assign ?body ?done ?stop
 case ps=>
  rintro pre x ar A ⟨⟨wa,wc,sa,sc,rfl,-⟩,-⟩
  rfl
 case still=>
  rintro pre O A l o o' ⟨ts,wv,h⟩ hl ho1 ho2
  exact⟨ts,wv,h.of (h.gat.still ho1 ho2) (aCG ho1 ho2 h.res) (h.bel.trans (aBZ _ _ (by omega)))⟩
 case grows=>
  rintro pre O A A' ⟨ts,wv,h⟩ hb
  have zA:=h.bel.size
  exact⟨ts,wv,h.of (h.gat.grow hb) ((hb.block _ (Array.getElem?_eq_some_iff.1 h.res).1).trans h.res) (h.bel.trans (hb.mono zA))⟩
 case lt=>
  rintro pre O A ⟨ts,wv,h⟩ b hb
  rcases(h.own b).1 hb with rfl| rfl| hv
  ·exact(Array.getElem?_eq_some_iff.1 h.res).1
  ·exact(Array.getElem?_eq_some_iff.1 h.gat.1).1
  ·exact(h.gat.2.1.lt b hv).2
 case xstill=>
  rintro A l o o' ⟨h1,h2,h3⟩ hl ho1 ho2
  exact⟨aCG ho1 ho2 h1,h2.trans (aBZ _ _ (by omega)),h3⟩
 case start=>exact⟨[],.slice none 0 0,⟨⟨wY,World.ownsRow_nil _ _ _ _,by simp[Value.ownBlock]⟩,rfl,by simp,rY,rfl,bY,fun b=>by simp[Value.ownBlock]⟩⟩
 case seq=>
  intro l J Jx W hb hJg hJO hy h0
  have hbW:=bY.trans (hb.mono (by omega))
  have:=aNZ f ks l J Jx w.heap.size hJg hJO (fun n pre O x ar A hJ hp hA=>aEC (hy pre O x ar A hJ ⟨hA,by rw[HXS.out];exact hp⟩)) (3- 1) _ W ka kc (w.heap.size+1+1) hf hsm ((hR.under (hbW.mono hB)).sub fun b hb=>by omega) hbW.size hfb h0 (by rintro b (rfl| rfl)<;>omega) ((hb.cell (p:=⟨w.heap.size+1+1,0,none⟩) (by show w.heap.size+1+1<_;omega)).trans (aA1 sY 0 (by simp)).1)
  rw[←HXS.out] at this
  exact this
 case astill=>
  rintro pre x ar a' A l o o' ⟨wa,wc,sa,sc,sb,h1,h2,h3,h4,h5,h6,h7,h8,h9⟩ hl ho1 ho2
  exact⟨wa,wc,sa,sc,sb,h1,h2,h3,aKY ho1 ho2 h4,h5,h6,h7,h8,aCG ho1 ho2 h9⟩
 case assign=>
  rintro l pre x ar A K ⟨⟨wa,wc,sa,sc,rfl,h3,h4,h5,h6,h7,h8⟩,hp⟩ hK
  have HK:=aA0 hK
  clear hK
  gi_wp2
  refine HK.out _ _ (aA2 A _) ⟨wa,wc,sa,sc,A.heap.size,hp,rfl,h3,?_,h5,h6,h7,h8,aA3 _ _ rfl⟩
  exact(h4.mono fun k hk=>(aA2 A _).block k hk).sub fun k hk=>by simp;omega
 case done=>
  rintro D O W hD ⟨ts,wv,h⟩ hK
  have hpn:ts.length=XS.length:=by have:=congrArg List.length h.texts;simpa using this
  have hwk:=(aE0 XS []).1 h.walk
  have hx24:XS.length≤24:=by
   by_cases hx:XS=[]
   ·rw[hx];simp
   ·simpa using hwk.2.1 hx
  obtain⟨va,vc,rfl,-⟩:=h.gat.strs (fun t ht=>by have:=h.sizes t ht;unfold maxLen;omega) (by omega)
  have c0:=(aA1 h.res 0 (by simp)).1
  have c0f:=(aA1 h.res 0 (by simp)).2
  have c1:=(aA1 h.gat.1 0 (by simp)).1
  simp at c0 c1
  have hi24:(ts.length:Int)≤24:=by omega
  have HH:=aA0 h
  have HV:Hid ((!ks.isEmpty&&aDG [] XS)=decide (0<ts.length)):=aA0 (by
   rw[h.walk,hpn,Bool.and_true]
   have:=aQI hf
   rw[←HXS.out] at this
   cases hk:ks.isEmpty
   ·simp[this.2 hk]
   ·have h2:¬0<XS.length:=fun h3=>by rw[this.1 h3] at hk;cases hk
    simp[h2])
  clear hwk h
  have hDN:D≠w.heap.size:=by omega
  gi_wp2
  have HV':=HV.out
  rw[hpn] at HV'
  have hK':(W.setCell ⟨w.heap.size,0,none⟩ (.bool (decide (0<XS.length)))).heap[D]?=some (.deferred (some [])):=(Below.heap_setCell _ _ _ _ hDN).trans hK
  have hbx:((W.setCell ⟨w.heap.size,0,none⟩ (.bool (decide (0<XS.length)))).putObj D (.deferred none)).heap[w.heap.size]?=some (.cells #[.bool (decide (0<XS.length))] 4 (0,0)):=(World.putObj_heap_other (Ne.symm hDN)).trans (by rw[aA9 HH.out.res];rfl)
  have cx:=(aA1 hbx 0 (by simp)).1
  simp only[List.getElem_toArray,List.getElem_cons_zero] at cx
  refine⟨by simp,.inl ⟨_,_,rfl,run_takeDeferred hK',.bool (decide (0<XS.length)),by simp[results,Tryz.results45,go_sem,cx],by rw[HV'],?_⟩⟩
  exact(HH.out.bel.setCell (p:=⟨w.heap.size,0,none⟩) (Nat.le_refl _) _).trans (aBZ _ _ (by omega))
 case stop=>
  rintro D W hD ⟨h1,h2,h3⟩ hK
  have c0:=(aA1 h1 0 (by simp)).1
  simp at c0
  have HV:Hid ((!ks.isEmpty&&aDG [] XS)=false):=aA0 (by rw[h3];simp)
  have hDN:D≠w.heap.size:=by omega
  gi_wp2
  have cx:=(aA1 (show(W.putObj D (.deferred none)).heap[w.heap.size]?=_ from (World.putObj_heap_other (Ne.symm hDN)).trans h1) 0 (by simp)).1
  simp only[List.getElem_toArray,List.getElem_cons_zero] at cx
  refine⟨by simp,.inl ⟨_,_,rfl,run_takeDeferred hK,.bool false,by simp[results,Tryz.results45,go_sem,cx],by rw[HV.out],?_⟩⟩
  exact h2.trans (aBZ _ _ (by omega))
 case body=>
  rintro l pre O x ar a' A ⟨ts,wv,h⟩ ⟨wa,wc,sa,sc,sb,hp,rfl,h3,h4,h5,h6,h7,h8,h9⟩
  have zY2:w.heap.size≤Y.heap.size:=by omega
  clear zY
  have hpn:ts.length=pre.length:=by have:=congrArg List.length h.texts;simpa using this
  have hwk:=(aE0 pre []).1 h.walk
  have hx24:pre.length≤24:=by
   by_cases hx:pre=[]
   ·rw[hx];simp
   ·simpa using hwk.2.1 hx
  clear hwk
  have hszs:∀t∈ ts,t.size≤maxLen:=fun t ht=>by have:=h.sizes t ht;unfold maxLen;omega
  obtain⟨va,vc,rfl,hSt⟩:=h.gat.strs hszs (by omega)
  have zA:=h.bel.size
  have c0:=(aA1 h.res 0 (by simp)).1
  have c0f:=(aA1 h.res 0 (by simp)).2
  have c1:=(aA1 h.gat.1 0 (by simp)).1
  have c1f:=(aA1 h.gat.1 0 (by simp)).2
  have d0:=(aA1 h9 0 (by simp)).1
  have d1:=(aA1 h9 1 (by simp)).1
  have d2:=(aA1 h9 2 (by simp)).1
  have d3:=(aA1 h9 3 (by simp)).1
  have d4:=(aA1 h9 4 (by simp)).1
  simp only[List.getElem_toArray,List.getElem_cons_zero,List.getElem_cons_succ] at c0 c1 d0 d1 d2 d3 d4
  have hti:(ts.length:Int)≤24:=by omega
  have hfin:∀W,Below A.heap.size A W→aJ4 (pre.map fun x=>aCA x.1) x=false→KeepsFrom Y.heap.size A (W.setCell ⟨w.heap.size,0,none⟩ (.bool false))∧NoOk w XS (W.setCell ⟨w.heap.size,0,none⟩ (.bool false)):=fun W hb hs=>by
   refine⟨KeepsOthers.from (KeepsOthers.trans (B:=W) ⟨hb.size,fun k o hk _=>(hb.block k (Array.getElem?_eq_some_iff.1 hk).1).trans hk⟩ (KeepsOthers.setCell _ _ _)) _,?_,?_,aRI hp hs⟩
   ·rw[aA9 ((hb.block _ (Array.getElem?_eq_some_iff.1 h.res).1).trans h.res)];rfl
   ·exact(h.bel.trans (hb.mono zA)).setCell (p:=⟨w.heap.size,0,none⟩) (Nat.le_refl _) _
  have HF:=aA0 hfin
  have HH:=aA0 h
  have HP:=aA0 hp
  have HPN:=aA0 hpn
  clear hfin h hp hszs hpn
  by_cases k1:5<x.1.length
  ·have k1i:(5:Int)<(x.1.length:Int):=by omega
   have HS:=HF.out A (Below.refl _ _) (by simp only[aJ4];rw[show decide (x.1.length≤5)=false by simp;omega];simp)
   have HS':=aA0 HS
   clear HS
   gi_wp2
   refine⟨trivial,?_⟩
   gi_wp2
   exact⟨HS'.out.1,Or.inr ⟨rfl,HS'.out.2⟩⟩
  have k1i:¬(5:Int)<(x.1.length:Int):=by omega
  by_cases k2:ts.length=24
  ·have k2i:(ts.length:Int)=24:=by omega
   have HS:=HF.out A (Below.refl _ _) (by simp only[aJ4,List.length_map];rw[←HPN.out,k2];simp)
   have HS':=aA0 HS
   clear HS
   gi_wp2
   refine⟨trivial,?_⟩
   gi_wp2
   exact⟨HS'.out.1,Or.inr ⟨rfl,HS'.out.2⟩⟩
  have k2i:¬(ts.length:Int)=24:=by omega
  have hIs:=fun W=>aOB x.2 W (.slice sa x.2.kids.length sc) h5 h6
  cases k3:selB x.2
  ·have HS:=aA0 (fun W hW=>HF.out W hW (by simp only[aJ4];rw[k3];simp))
   have HI:=aA0 hIs
   rw[k3] at HI
   clear hIs
   gi_wp2_with (
    refine⟨trivial,?_⟩
    gi_at_call 82
    refine(CallsIn.inRound l (callsIn_wide.2 (HI.out A))).mono ?_
    rintro e w1 ⟨rfl,hb1⟩
    have c0':w1.cell? ⟨w.heap.size,0,none⟩=_:=(hb1.cell (p:=⟨w.heap.size,0,none⟩) (Array.getElem?_eq_some_iff.1 HH.out.res).1).trans c0
    have c0f':w1.frozen? ⟨w.heap.size,0,none⟩=false:=(hb1.frozen (p:=⟨w.heap.size,0,none⟩) (Array.getElem?_eq_some_iff.1 HH.out.res).1).trans c0f)
   exact⟨(HS.out _ hb1).1,Or.inr ⟨rfl,(HS.out _ hb1).2⟩⟩
  have HI:=aA0 hIs
  rw[k3] at HI
  clear hIs
  obtain⟨i0,hi,hz0,hz1,hz2⟩:=info_parts aJW
  gi_wp2_with (first
   |(
    refine⟨trivial,?_⟩
    gi_at_call 82
    refine(CallsIn.inRound l (callsIn_wide.2 (HI.out A))).mono ?_
    rintro e w1 ⟨rfl,hb1⟩
    have zb1:=hb1.size
    have hW:=aO8 x.1 wa wc w1 ((h4.mono fun k hk=>hb1.block k hk).sub fun k hk=>by omega) h8 h3 (by omega) h7
    have HW:=aA0 hW
    clear hW)
   |(
    refine⟨trivial,?_⟩
    gi_at_call 51
    refine(CallsIn.inRound l (callsIn_wide.2 HW.out)).mono ?_
    rintro e w2 ⟨⟨t,rfl,ht,hts⟩,hb2'⟩
    have hb2:=hb1.trans (hb2'.mono hb1.size)
    have HT:=aA0 (And.intro ht hts)
    clear ht hts hb2'
    have zb2:=hb2.size
    have e0:w2.cell? ⟨w.heap.size,0,none⟩=_:=(hb2.cell (p:=⟨w.heap.size,0,none⟩) (Array.getElem?_eq_some_iff.1 HH.out.res).1).trans c0
    have e0f:w2.frozen? ⟨w.heap.size,0,none⟩=false:=(hb2.frozen (p:=⟨w.heap.size,0,none⟩) (Array.getElem?_eq_some_iff.1 HH.out.res).1).trans c0f
    have e1:w2.cell? ⟨w.heap.size+1,0,none⟩=_:=(hb2.cell (p:=⟨w.heap.size+1,0,none⟩) (Array.getElem?_eq_some_iff.1 HH.out.gat.1).1).trans c1
    have hG2:=HH.out.gat.grow hb2
    obtain⟨va',vc',ev,hSt2⟩:=hG2.strs (fun t ht=>by have:=HH.out.sizes t ht;unfold maxLen;omega) (by omega)
    simp only[Value.slice.injEq,true_and] at ev
    obtain⟨rfl,rfl⟩:=ev
    have hC:=aL8 ts t w2 _ va vc hSt2 (by omega)
    have HC:=aA0 hC
    clear hC hSt2)
   |(
    refine⟨trivial,?_⟩
    gi_at_call 83
    refine(CallsIn.inRound l (callsIn_wide.2 HC.out)).mono ?_
    rintro e w3 ⟨rfl,rfl⟩
    generalize hcb:(ts.map ByteArray.toList).contains t.toList=cb
    have HCB:=aA0 hcb
    clear hcb
    refine Hid.out ?_))
  refine aA0 ?_
  have HST:Hid (aJ4 (pre.map fun x=>aCA x.1) x=!cb):=aA0 (by
   simp only[aJ4,List.length_map]
   rw[k3,←HPN.out,←HH.out.texts,←HT.out.1,HCB.out]
   have e1:decide (x.1.length≤5)=true:=by simp;omega
   have e2:decide (ts.length<24)=true:=by simp;omega
   rw[e1,e2]
   simp)
  cases cb
  rotate_left
  ·have HS:=aA0 (HF.out w2 hb2 (by rw[HST.out];rfl))
   gi_wp2
   exact⟨HS.out.1,Or.inr ⟨rfl,HS.out.2⟩⟩
  ·gi_wp2_with (
    gi_at_builtin
    refine wpListIn_append_own_at _ rfl _ _ 29 rfl w.heap.size 9 i0 (.string ByteArray.empty) 1 16 Tryz.underlying29 hi hz0 hz1 hz2 rfl (by decide) _ _ _ rfl (hG2.2.1.alloc _) ⟨w2.heap.size,0,none⟩ 1 1 [.string t] rfl rfl (World.news_of_block (heap_alloc_new w2 _)) (by intro u hu;simp at hu;subst hu;rfl) (by unfold maxLen;omega) (by omega) (by simp;omega) ?_
    intro v' w4 hown hgrow _ hat
    have hnx:=HH.out.next (x:=x) (t:=t) (hb2.trans ((aA2 w2 _).mono hb2.size)) hgrow hown hat HT.out.1 HT.out.2 (by rw[HST.out];rfl)
    have HN:=aA0 hnx
    have n4:w4.heap[w.heap.size+1]?=some (.cells #[.slice va ts.length vc] 29 (0,0)):=by
     rw[hgrow.block _ (by simp;have:=(Array.getElem?_eq_some_iff.1 hG2.1).1;omega) (fun e=>HH.out.gat.2.2 e.symm)]
     exact((aA2 w2 _).block _ (Array.getElem?_eq_some_iff.1 hG2.1).1).trans hG2.1
    have g1:=(aA1 n4 0 (by simp)).1
    have g1f:=(aA1 n4 0 (by simp)).2
    simp only[List.getElem_toArray,List.getElem_cons_zero] at g1
    obtain⟨a4,m4,c4,rfl⟩:∃a n c,v'=.slice a n c:=by
     rcases hown.2 with⟨hv,_⟩| ⟨g,cap,cur,hv,_⟩
     ·exact⟨_,_,_,hv⟩
     ·exact⟨_,_,_,hv⟩
    clear hnx hown hgrow hat)
   exact⟨HN.out.2.from _,Or.inl ⟨rfl,HN.out.1⟩⟩
end Go.Proofs.YtokmgbidmnanpaaGreatDoor
namespace Go.Proofs.YtokmgbidmnanpaaGreatDoor
open Go.RowKit Go.Shelf Go.Maps
set_option maxHeartbeats 400000 in
theorem aJX(w:World)(P:Nat→Prop):
  Calls Tryz.prog 84 #[] w fun e w'=>∃b mb,e=.returned (.pointer (some ⟨b,0,none⟩))∧w.heap.size≤mb∧TS w P w.heap.size b mb [] (.slice none 0 0) 0 [] (fun _=>none) w':=by
 have hmm:=@run_makeMap Tryz.prog
 go_enter Tryz.func84,Tryz.ntmps84
 go_wp2_with fail
 go_ret
 refine⟨_,w.heap.size,rfl,Nat.le_refl _,⟨by omega,_,_,Or.inl rfl,aA3 _ _ (by simp),World.ownsRowF_nil _ _ _ _⟩,World.ownsRow_nil _ _ _ _,?_,aA5 _ _ _⟩
 exact(aF1.made w (KI P)).of_block ((aA2 _ _).block _ (by simp))
theorem Tab.up{B:Nat}{w:World}(h:Tab B w)(hB:B≤w.heap.size):Tab w.heap.size w:=fun W hW=>h W (hW.mono hB)
set_option maxHeartbeats 400000 in
theorem aLL(P:Nat→Prop)(f g:Nat)(ks:List Se)(w:World)(kb ko kc:Nat)(hP:∀b,P b→b<w.heap.size∧aBK w b)(hS:aAA w P ks (some ⟨kb,ko,none⟩))(h0:0<ks.length)(hf:FitS f ks)(hok:okTo f g ks ks.length=true)(hR:(txtL f ks).length≤1000)(hTab:Tab w.heap.size w):
  Calls Tryz.prog 46 #[.slice (some ⟨kb,ko,none⟩) ks.length kc] w fun e w'=>e=.returned (.string ⟨(txtL f ks).toArray⟩)∧Below w.heap.size w w':=by
 have HN:=aA0 (aJX w P)
 go_enter Tryz.func46,Tryz.ntmps46
 go_wp2_with fail
 refine HN.out.mono ?_
 rintro e w1 ⟨b,mb,rfl,hmb,h1⟩
 have HLi:=aA0 (aSU w P w.heap.size b mb f g ks w1 kb ko kc h1 hP hS h0 hf hok hR hTab (Nat.le_refl _) hmb)
 clear h1
 go_wp2_with fail
 refine HLi.out.mono ?_
 rintro e w2 ⟨rfl,a2,b2⟩
 have HSt:=aA0 (aQX w.heap.size b _ (txtL f ks) w2 a2 (by unfold txtL;simp))
 clear a2
 go_wp2_with fail
 refine HSt.out.mono ?_
 rintro e w3 ⟨rfl,-,b3,-⟩
 have HB:=aA0 (b2.trans b3)
 clear b2 b3
 go_wp2_with fail
 go_ret
 exact⟨rfl,HB.out⟩
end Go.Proofs.YtokmgbidmnanpaaGreatDoor
namespace Go.Proofs.YtokmgbidmnanpaaGreatDoor
open Go.RowKit Go.Shelf Go.Maps
structure aJO(f:Nat)(ks:List Se)(P:Nat→Prop)(B:Nat)(ka:Option Addr)(w:World):Prop where
 fit:FitS f ks
 small:aEJ f ks
 few:f≤1000000000
 rep:aAA w P ks ka
 apart:∀b,P b→b<B∧aBK w b
 le:B≤w.heap.size
 tab:Tab w.heap.size w
theorem aJO.on{f:Nat}{ks:List Se}{P:Nat→Prop}{B:Nat}{ka:Option Addr}{w w':World}(h:aJO f ks P B ka w)(hb:Below w.heap.size w w'):aJO f ks P B ka w':=by
 have hs:=hb.size
 have hl:=h.le
 exact⟨h.fit,h.small,h.few,h.rep.mono fun k hk=>hb.block k (by have:=(h.apart k hk).1;omega),fun b hb'=>⟨(h.apart b hb').1,(h.apart b hb').2.of_block (hb.block b (by have:=(h.apart b hb').1;omega))⟩,by omega,(h.tab.on hb).up hs⟩
theorem aOX{f:Nat}{ks:List Se}(hf:FitS f ks)(h:askB f ks=true):(txtL f ks).length≤1000:=by
 simp only[askB,Bool.and_eq_true,decide_eq_true_eq] at h
 have:=aGT f 1 ks _ (Nat.le_refl _) hf h.1.2
 unfold txtL
 simp
 omega
set_option maxHeartbeats 800000 in
theorem aQ7(f:Nat)(ks:List Se)(P:Nat→Prop)(B:Nat)(ka:Option Addr)(kc:Nat)(w:World)(h:aJO f ks P B ka w):
  Calls Tryz.prog 14 #[.slice ka ks.length kc] w fun e w'=>e=.returned (.bool (aDH f ks))∧Below w.heap.size w w':=by
 have HA:=aA0 (aL7 f ks w B ka kc h.fit h.small h.few (h.rep.sub fun b hb=>(h.apart b hb).1) h.le)
 rw[←aJ7 f ks h.fit] at HA
 cases hb:askB f ks
 ·rw[hb] at HA
  have HE:Hid (aDH f ks=false):=aA0 (by rw[aDH,hb];rfl)
  go_enter Tryz.func14,Tryz.ntmps14
  go_wp2_with fail
  refine HA.out.mono ?_
  rintro e w1 ⟨rfl,hb1⟩
  go_wp2_with fail
  go_ret
  exact⟨aA4 (by rw[HE.out]),hb1⟩
 ·rw[hb] at HA
  have hb':=hb
  simp only[askB,Bool.and_eq_true,decide_eq_true_eq,Bool.not_eq_true'] at hb'
  have h0:0<ks.length:=by
   cases ks with
   |nil=>simp at hb'
   |cons a l=>simp
  obtain⟨kb,ko,rfl,-,-⟩:=h.rep.2.choose_spec.1 h0
  have HT:=aA0 (fun W (hW:Below w.heap.size w W)=>aLL P f 1 ks W kb ko kc (fun b hb=>⟨by have:=((h.on hW).apart b hb).1;have:=(h.on hW).le;omega,((h.on hW).apart b hb).2⟩) (h.on hW).rep h0 h.fit hb'.1.2 (aOX h.fit hb) (h.on hW).tab)
  have HE:Hid (aDH f ks=decide ((txtL f ks).length≤400)):=aA0 (by rw[aDH,hb];simp)
  have hsz:(⟨(txtL f ks).toArray⟩:ByteArray).size=(txtL f ks).length:=by simp[ByteArray.size]
  have hl:=aOX h.fit hb
  clear hb hb'
  generalize txtL f ks=T at*
  go_enter Tryz.func14,Tryz.ntmps14
  go_wp2_with fail
  refine HA.out.mono ?_
  rintro e w1 ⟨rfl,hb1⟩
  go_wp2_with fail
  refine(HT.out w1 hb1).mono ?_
  rintro e w2 ⟨rfl,hb2⟩
  have bw2:=hb1.trans (hb2.mono hb1.size)
  go_wp2_with fail
  go_ret
  exact⟨aA4 (by rw[HE.out];simp;omega),bw2⟩
end Go.Proofs.YtokmgbidmnanpaaGreatDoor
namespace Go.Proofs.YtokmgbidmnanpaaGreatDoor
open Go.RowKit Go.Shelf Go.Maps
def Se.sub(s:Se)(K:List Se):Se:=⟨s.al,s.name,s.one,s.id,K⟩
theorem aT4(ks:List Se)(n:Nat)(h:n<ks.length):ks.take n++[sth ks n]=ks.take (n+1):=by
 rw[List.take_add_one]
 simp[sth,List.getD_eq_getElem?_getD,h]
theorem aJH{ks:List Se}{i:Nat}(hi:i<ks.length):sth ks i∈ ks:=by
 have es:sth ks i=ks[i]:=by simp[sth,List.getD_eq_getElem?_getD,hi]
 rw[es]
 exact List.getElem_mem hi
theorem aIC{f:Nat}{ks:List Se}(hf:FitS f ks)(hc:aBX f ks ks.length≤1000000):ks.length≤1000000:=by
 cases f with
 |zero=>have e:ks=[]:=hf;rw[e];simp
 |succ f=>exact Nat.le_trans (aP0 ks f _) hc
end Go.Proofs.YtokmgbidmnanpaaGreatDoor
namespace Go.Proofs.YtokmgbidmnanpaaGreatDoor
open Go.RowKit Go.Shelf Go.Maps
structure El where
 s:Se
 ka:Option Addr
 kc:Nat
 Q:Nat→Prop
def El.cells(e:El):List Value:=[.string e.s.al,.string e.s.name,.bool e.s.one,.int .i64 e.s.id,.slice e.ka e.s.kids.length e.kc]
def aTX(P:World→(Nat→Prop)→List Se→Option Addr→Prop):Prop:=∀(w w':World) (Q:Nat→Prop) (ks:List Se) (a:Option Addr),P w Q ks a→(∀b,Q b→w'.heap[b]?=w.heap[b]?)→P w' Q ks a
theorem aDP:aTX aAA:=fun w w' Q ks a h e=>h.mono e
structure RowP(P:World→(Nat→Prop)→List Se→Option Addr→Prop)(base:Nat)(es:List El)(v:Value)(w:World):Prop where
 row:w.ownsRow base 56 5 v es.length (es.flatMap El.cells)
 kid:∀e∈ es,P w e.Q e.s.kids e.ka∧∀b,e.Q b→b<w.heap.size∧v.ownBlock≠some b
theorem RowP.nil{P:World→(Nat→Prop)→List Se→Option Addr→Prop}(base:Nat)(w:World):RowP P base [] (.slice none 0 0) w:=⟨World.ownsRow_nil _ _ _ _,fun e he=>by cases he⟩
theorem RowP.new{P:World→(Nat→Prop)→List Se→Option Addr→Prop}(w:World):RowP P w.heap.size [] (.slice (some ⟨w.heap.size,0,none⟩) 0 0) (w.alloc (.cells #[] 56)):=
 ⟨⟨rfl,Or.inr ⟨w.heap.size,0,#[],rfl,Nat.le_refl _,heap_alloc_new w _,Nat.le_refl _,by unfold maxLen;omega,rfl,rfl⟩⟩,fun e he=>by cases he⟩
theorem RowP.form{P:World→(Nat→Prop)→List Se→Option Addr→Prop}{base:Nat}{es:List El}{v:Value}{w:World}(h:RowP P base es v w)(hn:¬v=.slice none 0 0):∃g cap,v=.slice (some ⟨g,0,none⟩) es.length cap:=by
 rcases h.row.2 with⟨e,-⟩| ⟨g,cap,cur,e,-⟩
 ·exact absurd e hn
 ·exact⟨g,cap,e⟩
theorem RowP.slice{P:World→(Nat→Prop)→List Se→Option Addr→Prop}{base:Nat}{es:List El}{v:Value}{w:World}(h:RowP P base es v w):∃a cap,v=.slice a es.length cap:=by
 rcases h.row.2 with⟨e,e2⟩| ⟨g,cap,cur,e,-⟩
 ·exact⟨none,0,by rw[e,e2]⟩
 ·exact⟨_,cap,e⟩
theorem RowP.keep{P:World→(Nat→Prop)→List Se→Option Addr→Prop}(hP:aTX P){base:Nat}{es:List El}{v:Value}{w w':World}(h:RowP P base es v w)(hb:Below w.heap.size w w'):RowP P base es v w':=by
 refine⟨aBC h.row hb,fun e he=>?_⟩
 obtain⟨h1,h2⟩:=h.kid e he
 exact⟨hP _ _ _ _ _ h1 fun b hq=>hb.block b (h2 b hq).1,fun b hq=>⟨Nat.lt_of_lt_of_le (h2 b hq).1 hb.size,(h2 b hq).2⟩⟩
theorem RowP.push{P:World→(Nat→Prop)→List Se→Option Addr→Prop}(hP:aTX P){base:Nat}{es:List El}{v v':Value}{w w':World}(h:RowP P base es v w)(e:El){xs:List Value}(hx:xs=e.cells){n:Nat}(hn:n=es.length)
  (hr:w'.ownsRow base 56 5 v' (n+1) (es.flatMap El.cells++xs)) (hg:w.grownBy w' v.ownBlock) (ho:v'.ownBlock=v.ownBlock∨v'.ownBlock=some w.heap.size)
  (hk:P w e.Q e.s.kids e.ka) (hq:∀b,e.Q b→b<w.heap.size∧v.ownBlock≠some b):RowP P base (es++[e]) v' w':=by
 subst hx hn
 have hall:∀y∈ es++[e],P w y.Q y.s.kids y.ka∧∀b,y.Q b→b<w.heap.size∧v.ownBlock≠some b:=fun y hy=>by
  rcases List.mem_append.1 hy with hy| hy
  ·exact h.kid y hy
  ·rw[List.mem_singleton.1 hy];exact⟨hk,hq⟩
 refine⟨by simpa[List.flatMap_append] using hr,fun y hy=>?_⟩
 obtain⟨h1,h2⟩:=hall y hy
 refine⟨hP _ _ _ _ _ h1 fun b hb=>hg.block b (h2 b hb).1 (h2 b hb).2.symm,fun b hb=>⟨Nat.lt_of_lt_of_le (h2 b hb).1 hg.size,fun e2=>?_⟩⟩
 rcases ho with ho| ho
 ·exact(h2 b hb).2 (ho▸e2)
 ·rw[ho] at e2
  have:=(h2 b hb).1
  simp at e2
  omega
theorem aH9(es:List El):∀(i j:Nat) (hi:i<es.length),j<5→(es.flatMap El.cells)[i*5+j]?=(es[i]).cells[j]?:=by
 induction es with
 |nil=>intro i j hi;simp at hi
 |cons e es ih=>
  intro i j hi hj
  rw[List.flatMap_cons]
  have hl:e.cells.length=5:=rfl
  cases i with
  |zero=>rw[List.getElem?_append_left (by omega)];simp
  |succ i=>
   rw[List.getElem?_append_right (by omega),hl,show(i+1)*5+j- 5=i*5+j by omega]
   simpa using ih i j (by simpa using hi) hj
theorem RowP.reps{P:World→(Nat→Prop)→List Se→Option Addr→Prop}(hP:∀w Q ks a,P w Q ks a→aAA w Q ks a){base:Nat}{es:List El}{v:Value}{w:World}(h:RowP P base es v w)(hl:es.length≤1000000)(hs:∀e∈ es,e.s.al.size≤maxLen∧e.s.name.size≤maxLen)(R:Nat→Prop)
  (hR:∀b,(base≤b∧b<w.heap.size)→R b) (hRe:∀e∈ es,∀b,e.Q b→R b):
  ∃a c,v=.slice a es.length c∧aAA w R (es.map El.s) a:=by
 rcases h.row.2 with⟨rfl,h0⟩| ⟨g,cap,cur,rfl,hb,hh,r⟩
 ·have e:es=[]:=List.length_eq_zero_iff.1 h0
  subst e
  exact⟨none,0,rfl,by simp,fun _ _=>.bool false,fun hn=>by simp at hn,fun i hi=>by simp at hi⟩
 ·refine⟨_,_,rfl,by simp;omega,fun i j=>((es.flatMap El.cells)[i*5+j]?).getD (.bool false),fun hn=>⟨g,0,rfl,hR g ⟨hb,(Array.getElem?_eq_some_iff.1 hh).1⟩,fun i hi j hj=>?_⟩,fun i hi=>?_⟩
  ·have hi':i<es.length:=by simpa using hi
   rw[Nat.zero_add,h.row.cellAt (i*5+j) (by omega)]
   have hlt:i*5+j<(es.flatMap El.cells).length:=by rw[h.row.1];omega
   show _=some ((es.flatMap El.cells)[i*5+j]?.getD (.bool false))
   rw[List.getElem?_eq_getElem hlt];rfl
  ·have hi':i<es.length:=by simpa using hi
   have hm:=List.getElem_mem hi'
   have c0:=aH9 es i 0 hi' (by omega)
   have c1:=aH9 es i 1 hi' (by omega)
   have c2:=aH9 es i 2 hi' (by omega)
   have c3:=aH9 es i 3 hi' (by omega)
   have c4:=aH9 es i 4 hi' (by omega)
   simp only
   rw[c0,c1,c2,c3,c4]
   have es1:sth (es.map El.s) i=es[i].s:=by simp[sth,List.getD_eq_getElem?_getD,hi']
   rw[es1]
   have hk:=(hP _ _ _ _ (h.kid _ hm).1).sub (hRe _ hm)
   have hz:=hs _ hm
   generalize es[i]=x at*
   simp only[El.cells,List.getElem?_cons_zero,List.getElem?_cons_succ,Option.getD_some]
   obtain⟨⟨x1,x2,x3,x4,x5⟩,x6,x7,x8⟩:=x
   exact aDZ.of_kids hz.1 hz.2 hk
end Go.Proofs.YtokmgbidmnanpaaGreatDoor
namespace Go.Proofs.YtokmgbidmnanpaaGreatDoor
open Go.RowKit Go.Shelf Go.Maps
structure Grew(w:World)(v:Value)(w':World)(v':Value):Prop where
 size:w.heap.size≤w'.heap.size
 os:w'.os=w.os
 tape:w'.tape=w.tape
 output:w'.output=w.output
 block:∀b,b<w.heap.size→v.ownBlock≠some b→w'.heap[b]?=w.heap[b]?
 lies:v'.ownBlock=v.ownBlock∨∃g,v'.ownBlock=some g∧w.heap.size≤g
theorem Grew.refl(w:World)(v:Value):Grew w v w v:=⟨Nat.le_refl _,rfl,rfl,rfl,fun _ _ _=>rfl,Or.inl rfl⟩
theorem Grew.below{w w':World}(v:Value)(h:Below w.heap.size w w'):Grew w v w' v:=⟨h.size,h.os,h.tape,h.output,fun b hb _=>h.block b hb,Or.inl rfl⟩
theorem Grew.trans{a b c:World}{u v x:Value}(h:Grew a u b v)(k:Grew b v c x):Grew a u c x:=by
 refine⟨Nat.le_trans h.size k.size,k.os.trans h.os,k.tape.trans h.tape,k.output.trans h.output,fun b' hb hn=>(k.block b' (Nat.lt_of_lt_of_le hb h.size) fun e=>?_).trans (h.block b' hb hn),?_⟩
 ·rcases h.lies with e2| ⟨g,e2,hg⟩
  ·exact hn (e2▸e)
  ·rw[e2] at e;simp only[Option.some.injEq] at e;omega
 ·rcases k.lies with e| ⟨g,e,hg⟩
  ·rcases h.lies with e2| ⟨g,e2,hg⟩
   ·exact Or.inl (e.trans e2)
   ·exact Or.inr ⟨g,e.trans e2,hg⟩
  ·exact Or.inr ⟨g,e,Nat.le_trans h.size hg⟩
theorem Grew.on{B:Nat}{a w w':World}{v v':Value}(h:Grew w v w' v')(hb:Below B a w)(ho:∀k,v.ownBlock=some k→B≤k)(hB:B≤a.heap.size):Below B a w':=
 ⟨h.os.trans hb.os,h.tape.trans hb.tape,h.output.trans hb.output,Nat.le_trans hb.size h.size,fun b hlt=>(h.block b (by have:=hb.size;omega) fun e=>by have:=ho b e;omega).trans (hb.block b hlt)⟩
def Row9(base:Nat)(w:World)(v:Value)(l:List ByteArray):Prop:=w.ownsRow base 9 1 v l.length (l.map Value.string)∧(∀i,(nth l i).size≤maxLen)∧l.length≤1000000000
theorem Row9.strs{base:Nat}{w:World}{v:Value}{l:List ByteArray}(h:Row9 base w v l):∃a c,v=.slice a l.length c∧Strs w (fun b=>base≤b∧b<w.heap.size) l a:=by
 obtain⟨h1,h2,h3⟩:=h
 have hlt:=h1.lt
 rcases h1.2 with⟨rfl,h0⟩| ⟨g,cap,cur,rfl,hb,hh,hn,-⟩
 ·have e:l=[]:=List.length_eq_zero_iff.1 h0
  subst e
  exact⟨none,0,rfl,fun h=>absurd rfl h,fun i=>by simp[nth,maxLen],by simp⟩
 ·refine⟨some ⟨g,0,none⟩,cap,rfl,fun hne=>⟨g,0,rfl,⟨hb,(hlt g rfl).2⟩,fun i hi=>?_⟩,h2,by unfold maxLen;omega⟩
  rw[Nat.zero_add,h1.cellAt i (by omega),List.getElem?_map]
  simp[nth,List.getD_eq_getElem?_getD,hi]
theorem Row9.keep{base:Nat}{w w':World}{v:Value}{l:List ByteArray}(h:Row9 base w v l)(hb:∀k,v.ownBlock=some k→w'.heap[k]?=w.heap[k]?):Row9 base w' v l:=⟨aAT h.1 hb,h.2⟩
theorem aKR(l:List ByteArray)(t:ByteArray)(hs:∀i,(nth l i).size≤maxLen)(ht:t.size≤maxLen)(i:Nat):(nth (l++[t]) i).size≤maxLen:=by
 unfold nth at hs ⊢
 rw[List.getD_eq_getElem?_getD]
 by_cases h:i<l.length
 ·rw[List.getElem?_append_left h,←List.getD_eq_getElem?_getD];exact hs i
 ·rw[List.getElem?_append_right (by omega)]
  by_cases e:i- l.length=0
  ·rw[e];simpa using ht
  ·rw[List.getElem?_eq_none (by simp;omega)];simp[maxLen]
theorem aLD(l:List ByteArray)(t:ByteArray):(addT l t).length≤l.length+1:=by unfold addT;split<;>simp
theorem aDR:∀(ts l:List ByteArray),(aC1 l ts).length≤l.length+ts.length
 |[],l=>by simp[aC1]
 |t::ts,l=>by
  have e:aC1 l (t::ts)=aC1 (addT l t) ts:=rfl
  rw[e]
  have:=aDR ts (addT l t)
  have:=aLD l t
  simp only[List.length_cons]
  omega
def hasN(ns:List ByteArray)(s:ByteArray)(n:Nat):Bool:=(List.range n).any fun i=>(nth ns i).toList==s.toList
theorem aS4(ns:List ByteArray)(s:ByteArray)(n:Nat):hasN ns s (n+1)=(hasN ns s n||((nth ns n).toList==s.toList)):=by
 simp[hasN,List.range_succ]
theorem aRK(ns:List ByteArray)(s:ByteArray)(n k:Nat)(hk:k<n)(h:((nth ns k).toList==s.toList)=true):hasN ns s n=true:=by
 rw[hasN,List.any_eq_true]
 exact⟨k,by simpa using hk,h⟩
theorem aPE(ns:List ByteArray)(s:ByteArray):hasN ns s ns.length=tmT ns s:=by
 rw[Bool.eq_iff_iff,hasN,tmT,List.any_eq_true]
 simp only[List.contains_iff_mem,List.mem_map,List.mem_range,beq_iff_eq]
 constructor
 ·rintro⟨i,hi,e⟩
  exact⟨ns[i],List.getElem_mem hi,by rw[←e];simp[nth,List.getD_eq_getElem?_getD,hi]⟩
 ·rintro⟨x,hx,e⟩
  obtain⟨i,hi,rfl⟩:=List.mem_iff_getElem.1 hx
  exact⟨i,hi,by rw[←e];simp[nth,List.getD_eq_getElem?_getD,hi]⟩
set_option maxHeartbeats 400000 in
theorem aSA(ns:List ByteArray)(a:Option Addr)(c:Nat)(s:ByteArray)(w:World)(P:Nat→Prop)(hS:Strs w P ns a):
  Calls Tryz.prog 134 #[.slice a ns.length c,.string s] w fun e w'=>e=.returned (.bool (tmT ns s))∧w=w':=by
 obtain⟨h1,h2,h3⟩:=hS
 unfold maxLen at h3
 rw[←aPE]
 by_cases hn0:ns=[]
 ·subst hn0
  go_enter Tryz.func134,Tryz.ntmps134
  go_wp2
  go_loop [5] (fun i=>i=.int .i64 0) (fun _=>0)
  case atStart=>rfl
  case round=>
   subst hrel
   go_wp2
   go_ret
   exact⟨rfl,rfl⟩
 ·obtain⟨b,off,rfl,_,hc⟩:=h1 hn0
  clear h1 h2
  go_enter Tryz.func134,Tryz.ntmps134
  go_wp2
  go_loop [5] (fun i=>∃k:Nat,k≤ns.length∧i=.int .i64 k∧Hid (hasN ns s k=false)) (fun i=>ns.length- (intOf i).toNat)
  case atStart=>exact⟨0,Nat.zero_le _,rfl,aA0 rfl⟩
  case round=>
   obtain⟨k,hk,rfl,HP⟩:=hrel
   by_cases hlt:k<ns.length
   ·have hck:=hc k (by omega)
    have HS1:=aA0 (aS4 ns s k)
    have HT1:=aA0 (aRK ns s ns.length k hlt)
    clear hc
    generalize nth ns k=x at*
    cases he:(x.toList==s.toList)
    ·rw[he] at HS1
     go_wp2
     go_round
     case rel=>exact⟨k+1,by omega,by go_num,aA0 (by rw[HS1.out,HP.out];rfl)⟩
     case measure=>simp[intOf];omega
    ·go_wp2
     go_ret
     exact⟨aA4 (HT1.out he).symm,rfl⟩
   ·go_wp2
    go_ret
    have e:k=ns.length:=by omega
    exact⟨aA4 (by rw[←e,HP.out]),rfl⟩
set_option maxHeartbeats 800000 in
theorem aQ3(ns:List ByteArray)(s:ByteArray)(w:World)(P:Nat→Prop)(a:Option Addr)(c:Nat)(hS:Strs w P ns a)(hl:ns.length≤1000000000):
  Calls Tryz.prog 122 #[.slice a ns.length c,.string s] w fun e w'=>e=.returned (.int .i64 (ixS ns s ns.length))∧w=w':=by
 obtain⟨hS1,hS2,hS3⟩:=hS
 go_enter Tryz.func122,Tryz.ntmps122
 go_wp2_with fail
 go_loopw [8] (fun i wr=>∃k:Nat,k≤ns.length∧i=.int .i64 k∧Hid (ixS ns s k=-1)∧wr=w) (fun i _=>ns.length- (intOf i).toNat)
 case atStart=>exact⟨0,Nat.zero_le _,rfl,aA0 rfl,rfl⟩
 case round=>
  obtain⟨k,hk,rfl,HI,rfl⟩:=hrel
  by_cases hlt:k<ns.length
  ·obtain⟨b,off,rfl,-,hc⟩:=hS1 (by intro e;rw[e] at hlt;simp at hlt)
   have hki:(k:Int)<(ns.length:Int):=by omega
   have q0:=hc k hlt
   have HX:Hid (ixS ns s (k+1)=if((nth ns k).toList==s.toList)=true then((k:Nat):Int) else -1):=aA0 (by rw[ixS,HI.out,if_neg (by omega)])
   have HM:Hid (((nth ns k).toList==s.toList)=true→ixS ns s ns.length=(k:Nat)):=aA0 fun h=>by
    have h1:ixS ns s (k+1)=(k:Nat):=by rw[HX.out,if_pos h]
    have key:∀m,k+1≤m→ixS ns s m=(k:Nat):=fun m hm=>by
     induction m with
     |zero=>omega
     |succ m ih=>
      by_cases em:m=k
      ·rw[em];exact h1
      ·rw[ixS,ih (by omega),if_pos (by omega)]
    exact key ns.length (by omega)
   clear hc hS1 hS2
   generalize nth ns k=x at*
   cases hq:(s.toList==x.toList)
   ·have hq2:(x.toList==s.toList)=false:=by rw[Bool.beq_comm];exact hq
    rw[hq2] at HX
    clear HM
    go_wp2_with fail
    go_roundw
    case measure=>simp[intOf];omega
    case rel=>exact⟨k+1,by omega,by go_num,aA0 (by rw[HX.out];rfl),trivial⟩
   ·have hq2:(x.toList==s.toList)=true:=by rw[Bool.beq_comm];exact hq
    have HR:=aA0 (HM.out hq2)
    clear HM HX
    go_wp2_with fail
    go_ret
    exact⟨aB8 (by rw[HR.out]),rfl⟩
  ·have e:k=ns.length:=by omega
   subst e
   go_wp2_with fail
   go_ret
   exact⟨aB8 (by rw[HI.out]),rfl⟩
set_option maxHeartbeats 400000 in
theorem aLQ(ns:List ByteArray)(s:ByteArray)(w:World)(P:Nat→Prop)(a:Option Addr)(c:Nat)(hS:Strs w P ns a)(hl:ns.length≤1000000000):
  Calls Tryz.prog 83 #[.slice a ns.length c,.string s] w fun e w'=>e=.returned (.bool (tmT ns s))∧w=w':=by
 have hI:=aQ3 ns s w P a c hS hl
 have HC:Hid (tmT ns s=decide (0≤ixS ns s ns.length)):=aA0 (by
  rw[←aPE,Bool.eq_iff_iff,decide_eq_true_eq,aR7 ns s _ (Nat.le_refl _),hasN,List.any_eq_true]
  simp only[List.mem_range,beq_iff_eq])
 have hcs:=aIE ns s ns.length
 generalize ixS ns s ns.length=x at*
 by_cases hx:0≤x
 ·have hx':x≥ 0:=hx
  go_enter Tryz.func83,Tryz.ntmps83
  go_wp2_with fail
  refine hI.mono ?_
  rintro e w1 ⟨rfl,rfl⟩
  go_wp2_with fail
  go_ret
  exact⟨aA4 (by rw[HC.out];simp[hx]),rfl⟩
 ·have hx':¬x≥ 0:=hx
  go_enter Tryz.func83,Tryz.ntmps83
  go_wp2_with fail
  refine hI.mono ?_
  rintro e w1 ⟨rfl,rfl⟩
  go_wp2_with fail
  go_ret
  exact⟨aA4 (by rw[HC.out];try simp[hx]),rfl⟩
def aI8(base:Nat)(w:World)(v:Value)(l:List ByteArray)(e:Ending)(w':World):Prop:=∃a c,e=.returned (.slice a l.length c)∧Row9 base w' (.slice a l.length c) l∧Grew w v w' (.slice a l.length c)
set_option maxHeartbeats 800000 in
theorem aKO(l:List ByteArray)(t:ByteArray)(w:World)(base:Nat)(v:Value)(h:Row9 base w v l)(ht:t.size≤maxLen)(hl:l.length+1≤1000000000)(hB:base≤w.heap.size):
  Calls Tryz.prog 104 #[v,.string t] w fun e w'=>aI8 base w v (addT l t) e w':=by
 obtain⟨i9,hi9,hy0,hy1,hy2⟩:=info_parts aJW
 obtain⟨a,c,rfl,hS⟩:=h.strs
 have HC:=aA0 (fun W (e:W=w)=>show Calls Tryz.prog 134 #[.slice a l.length c,.string t] W _ from e▸aSA l a c t w _ hS)
 have HH:=aA0 h
 clear h hS
 cases hc:tmT l t
 ·rw[hc] at HC
  have HA:Hid (addT l t=l++[t]):=aA0 (by rw[addT,hc];simp)
  have bE:=aA2 w (.cells #[.string t] 9)
  have HOV:=aA0 (aBC HH.out.1 bE)
  go_enter Tryz.func104,Tryz.ntmps104
  go_wp2_with (first
   |(go_at_call 134;refine(HC.out _ rfl).mono ?_;rintro e w' ⟨rfl,rfl⟩)
   |(
    at_builtin
    refine wpList_append_lies _ rfl _ _ _ rfl base 9 i9 (.string ByteArray.empty) 1 16 Tryz.underlying29 hi9 hy0 hy1 hy2 rfl (by decide) (.slice a l.length c) l.length (l.map Value.string) rfl HOV.out ⟨w.heap.size,0,none⟩ 1 1 [.string t] rfl rfl (World.news_of_block (heap_alloc_new w _)) (by intro u hu;simp at hu;subst hu;rfl) (by omega) (by unfold maxLen;omega) (by omega) (Nat.le_trans hB bE.size) _ rfl ?_
    intro g cap wP hown hgrow hat hltP
    have HN:=aA0 (And.intro hown (And.intro hgrow hat))
    clear hown hgrow hat))
  go_ret
  obtain⟨hown,hgrow,hat⟩:=HN.out
  refine⟨some ⟨g,0,none⟩,cap,by rw[HA.out];simp,?_,?_⟩
  ·rw[HA.out]
   refine⟨?_,aKR l t HH.out.2.1 ht,by simp;omega⟩
   simp only[List.length_append,List.length_singleton,List.map_append,List.map_cons,List.map_nil]
   exact hown
  ·refine⟨Nat.le_trans bE.size hgrow.size,hgrow.os.trans bE.os,hgrow.tape.trans bE.tape,hgrow.output.trans bE.output,fun b hb hn=>(hgrow.block b (by have:=bE.size;omega) (fun e=>hn e.symm)).trans (bE.block b hb),?_⟩
   rcases hat with e| e
   ·exact Or.inl e.symm
   ·exact Or.inr ⟨g,rfl,by rw[e];exact bE.size⟩
 ·rw[hc] at HC
  have HA:Hid (addT l t=l):=aA0 (by rw[addT,hc];simp)
  go_enter Tryz.func104,Tryz.ntmps104
  go_wp2_with (go_at_call 134;refine(HC.out _ rfl).mono ?_;rintro e w' ⟨rfl,rfl⟩)
  go_ret
  unfold aI8
  rw[HA.out]
  exact⟨a,c,rfl,HH.out,Grew.refl _ _⟩
set_option maxHeartbeats 800000 in
theorem aJL(l:List ByteArray)(t:ByteArray)(w:World)(base:Nat)(v:Value)(h:Row9 base w v l)(ht:t.size≤maxLen)(hl:l.length+1≤1000000000)(hB:base≤w.heap.size):
  Calls Tryz.prog 65 #[v,.string t] w fun e w'=>aI8 base w v (addT l t) e w':=by
 obtain⟨i9,hi9,hy0,hy1,hy2⟩:=info_parts aJW
 obtain⟨a,c,rfl,hS⟩:=h.strs
 have HC:=aA0 (fun W (e:W=w)=>show Calls Tryz.prog 83 #[.slice a l.length c,.string t] W _ from e▸aLQ l t w _ a c hS (by omega))
 have HH:=aA0 h
 clear h hS
 cases hc:tmT l t
 ·rw[hc] at HC
  have HA:Hid (addT l t=l++[t]):=aA0 (by rw[addT,hc];simp)
  have bE:=aA2 w (.cells #[.string t] 9)
  have HOV:=aA0 (aBC HH.out.1 bE)
  go_enter Tryz.func65,Tryz.ntmps65
  go_wp2_with (first
   |(go_at_call 83;refine(HC.out _ rfl).mono ?_;rintro e w' ⟨rfl,rfl⟩)
   |(
    at_builtin
    refine wpList_append_lies _ rfl _ _ _ rfl base 9 i9 (.string ByteArray.empty) 1 16 Tryz.underlying29 hi9 hy0 hy1 hy2 rfl (by decide) (.slice a l.length c) l.length (l.map Value.string) rfl HOV.out ⟨w.heap.size,0,none⟩ 1 1 [.string t] rfl rfl (World.news_of_block (heap_alloc_new w _)) (by intro u hu;simp at hu;subst hu;rfl) (by omega) (by unfold maxLen;omega) (by omega) (Nat.le_trans hB bE.size) _ rfl ?_
    intro g cap wP hown hgrow hat hltP
    have HN:=aA0 (And.intro hown (And.intro hgrow hat))
    clear hown hgrow hat))
  go_ret
  obtain⟨hown,hgrow,hat⟩:=HN.out
  refine⟨some ⟨g,0,none⟩,cap,by rw[HA.out];simp,?_,?_⟩
  ·rw[HA.out]
   refine⟨?_,aKR l t HH.out.2.1 ht,by simp;omega⟩
   simp only[List.length_append,List.length_singleton,List.map_append,List.map_cons,List.map_nil]
   exact hown
  ·refine⟨Nat.le_trans bE.size hgrow.size,hgrow.os.trans bE.os,hgrow.tape.trans bE.tape,hgrow.output.trans bE.output,fun b hb hn=>(hgrow.block b (by have:=bE.size;omega) (fun e=>hn e.symm)).trans (bE.block b hb),?_⟩
   rcases hat with e| e
   ·exact Or.inl e.symm
   ·exact Or.inr ⟨g,rfl,by rw[e];exact bE.size⟩
 ·rw[hc] at HC
  have HA:Hid (addT l t=l):=aA0 (by rw[addT,hc];simp)
  go_enter Tryz.func65,Tryz.ntmps65
  go_wp2_with (go_at_call 83;refine(HC.out _ rfl).mono ?_;rintro e w' ⟨rfl,rfl⟩)
  go_ret
  unfold aI8
  rw[HA.out]
  exact⟨a,c,rfl,HH.out,Grew.refl _ _⟩
set_option maxHeartbeats 400000 in
theorem aKT(a b:ByteArray)(w:World)(h:a.size+b.size+1≤9223372036854775807):
  Calls Tryz.prog 66 #[.string a,.string b] w fun e w'=>e=.returned (.string (fldT a b))∧w=w':=by
 have h1:a.size+1≤9223372036854775807:=by omega
 have h2:a.size+1+b.size≤9223372036854775807:=by omega
 go_enter Tryz.func66,Tryz.ntmps66
 go_wp2_with fail
 go_ret
 exact⟨rfl,rfl⟩
end Go.Proofs.YtokmgbidmnanpaaGreatDoor
