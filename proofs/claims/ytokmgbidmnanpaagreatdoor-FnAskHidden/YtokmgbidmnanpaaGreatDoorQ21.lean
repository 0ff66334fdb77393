import Derived.Test.YtokmgbidmnanpaaGreatDoorQ15
import Derived.Laws.OwnMore
set_option linter.unusedSimpArgs false
set_option linter.unusedVariables false
namespace Go.Proofs.YtokmgbidmnanpaaGreatDoor
open Go.RowKit Go.Shelf Go.Maps
def KI(P:Nat→Prop)(v:Value):Prop:=∃b o n,v=pk b o n∧P b
structure TS(w0:World)(P:Nat→Prop)(B b mb:Nat)(l:List UInt8)(vo:Value)(q:Nat)(xs:List Value)(G:Value→Option Value)(w:World):Prop where
 ask:AskT B b (.map (some mb)) l w
 row:w.ownsRow B 174 3 vo q xs
 map:aF1 w (KI P) mb G
 bel:Below B w0 w
section
variable {w0:World} {P:Nat→Prop} {B b mb:Nat} {l:List UInt8} {vo:Value} {q:Nat} {xs:List Value} {G:Value→Option Value} {w w':World}
theorem TS.key(h:TS w0 P B b mb l vo q xs G w)(hP:∀b,P b→b<B∧aBK w0 b):∀v,KI P v→PK w v:=fun v hv=>by
 obtain⟨k,o,n,e,hk⟩:=hv
 exact⟨k,o,n,e,(hP k hk).2.of_block (h.bel.block k (hP k hk).1)⟩
theorem aFR:(174:TypeId)≠5∧(174:TypeId)≠126:=by decide
theorem TS.own(h:TS w0 P B b mb l vo q xs G w){g:Nat}(hg:vo.ownBlock=some g):∃c,w.heap[g]?=some (Obj.cells c 174 (0,0))∧B≤g:=by
 rcases h.row.2 with⟨rfl,_⟩| ⟨g',cap,cur,rfl,hb,hh,_⟩
 ·simp[Value.ownBlock] at hg
 ·simp only[Value.ownBlock,Option.some.injEq] at hg
  subst hg
  exact⟨cur,hh,hb⟩
theorem TS.askOf(h:TS w0 P B b mb l vo q xs G w)(e:∀(k:Nat) (c:Array Value) (t:TypeId) (f:Nat× Nat),(t=126∨t=5)→w.heap[k]?=some (Obj.cells c t f)→w'.heap[k]?=some (Obj.cells c t f)):AskT B b (.map (some mb)) l w':=h.ask.of_blocks e
theorem TS.wrote(h:TS w0 P B b mb l vo q xs G w){l':List UInt8}(ha:AskT B b (.map (some mb)) l' w')(hb:Below B w w')(hk:Kept b w w'):TS w0 P B b mb l' vo q xs G w':=by
 obtain⟨h1,h2,h3,h4⟩:=h
 refine⟨ha,⟨h2.1,?_⟩,?_,h4.trans hb⟩
 ·rcases h2.2 with hn| ⟨g,cap,cur,hv,hbg,hh,r⟩
  ·exact Or.inl hn
  ·refine Or.inr ⟨g,cap,cur,hv,hbg,hk.block hh (fun e=>?_) aFR.1,r⟩
   obtain⟨-,p,v,-,hbk,-⟩:=h1
   rw[e,hbk] at hh
   simp only[Option.some.injEq,Obj.cells.injEq] at hh
   exact aFR.2 hh.2.1.symm
 ·obtain⟨es,clock,hm,r⟩:=h3
  refine⟨es,clock,hk mb _ hm (fun e=>?_) (fun c fz e=>by cases e),r⟩
  obtain⟨-,p,v,-,hbk,-⟩:=h1
  rw[Option.some.inj e,hbk] at hm
  cases hm
theorem TS.below(h:TS w0 P B b mb l vo q xs G w)(hB:B≤w.heap.size)(hb:Below w.heap.size w w'):TS w0 P B b mb l vo q xs G w':=
 h.wrote (h.ask.below hb) (hb.mono hB) fun k o hk _ _=>(hb.block k (Array.getElem?_eq_some_iff.1 hk).1).trans hk
theorem TS.drew(h:TS w0 P B b mb l vo q xs G w)(n:Nat):TS w0 P B b mb l vo q xs G (w.drewN n):=
 ⟨h.ask,h.row,h.map,⟨h.bel.os,h.bel.tape,h.bel.output,h.bel.size,h.bel.block⟩⟩
theorem TS.pushed(h:TS w0 P B b mb l vo q xs G w){vo':Value}{q':Nat}{xs':List Value}(hB:B≤w.heap.size)(hg:w.grownBy w' vo.ownBlock)(hr:w'.ownsRow B 174 3 vo' q' xs'):TS w0 P B b mb l vo' q' xs' G w':=by
 have hne:∀(k:Nat) (o:Obj),w.heap[k]?=some o→(∀c:Array Value,o≠Obj.cells c 174 (0,0))→w'.heap[k]?=some o:=fun k o hk ho=>by
  rw[hg.block k (Array.getElem?_eq_some_iff.1 hk).1 ?_]
  ·exact hk
  ·intro e
   obtain⟨c,hc,-⟩:=h.own e.symm
   rw[hk] at hc
   exact ho c (Option.some.inj hc)
 refine⟨h.askOf fun k c t f ht hk=>hne k _ hk fun c' e=>?_,hr,?_,h.bel.grown hg hB (fun k hk=>(h.own hk).elim fun _ hc=>hc.2)⟩
 ·simp only[Obj.cells.injEq] at e
  rcases ht with rfl| rfl
  ·exact aFR.2 e.2.1.symm
  ·exact aFR.1 e.2.1.symm
 ·obtain⟨es,clock,hm,r⟩:=h.map
  exact⟨es,clock,hne mb _ hm (fun c e=>by cases e),r⟩
theorem TS.stored(h:TS w0 P B b mb l vo q xs G w){g:Nat}(hv:vo.ownBlock=some g)(i:Nat)(x:Value)(hr:(w.setCell ⟨g,i,none⟩ x).ownsRow B 174 3 vo q (xs.set i x)):TS w0 P B b mb l vo q (xs.set i x) G (w.setCell ⟨g,i,none⟩ x):=by
 obtain⟨c,hc,hB⟩:=h.own hv
 have hne:∀(k:Nat) (o:Obj),w.heap[k]?=some o→(∀c:Array Value,o≠Obj.cells c 174 (0,0))→(w.setCell ⟨g,i,none⟩ x).heap[k]?=some o:=fun k o hk ho=>by
  rw[Below.heap_setCell _ _ _ _ (fun e=>?_)]
  ·exact hk
  ·have e':k=g:=e
   rw[e',hc] at hk
   exact ho c (Option.some.inj hk).symm
 refine⟨h.askOf fun k c t f ht hk=>hne k _ hk fun c' e=>?_,hr,?_,h.bel.setCell (p:=⟨g,i,none⟩) hB x⟩
 ·simp only[Obj.cells.injEq] at e
  rcases ht with rfl| rfl
  ·exact aFR.2 e.2.1.symm
  ·exact aFR.1 e.2.1.symm
 ·obtain⟨es,clock,hm,r⟩:=h.map
  exact⟨es,clock,hne mb _ hm (fun c e=>by cases e),r⟩
theorem TS.known(h:TS w0 P B b mb l vo q xs G w){G':Value→Option Value}(hmb:B≤mb)(hg:w.grownBy w' (some mb))(hm:aF1 w' (KI P) mb G'):TS w0 P B b mb l vo q xs G' w':=by
 have hne:∀(k:Nat) (c:Array Value) (t:TypeId) (f:Nat× Nat),w.heap[k]?=some (Obj.cells c t f)→w'.heap[k]?=some (Obj.cells c t f):=fun k c t f hk=>by
  rw[hg.block k (Array.getElem?_eq_some_iff.1 hk).1 ?_]
  ·exact hk
  ·intro e
   obtain⟨es,clock,hm,-⟩:=h.map
   rw[Option.some.inj e,hm] at hk
   cases hk
 refine⟨h.askOf fun k c t f _ hk=>hne k c t f hk,⟨h.row.1,?_⟩,hm,?_⟩
 ·rcases h.row.2 with hn| ⟨g,cap,cur,hv,hbg,hh,r⟩
  ·exact Or.inl hn
  ·exact Or.inr ⟨g,cap,cur,hv,hbg,hne _ _ _ _ hh,r⟩
 ·have hB:=(Array.getElem?_eq_some_iff.1 h.map.choose_spec.choose_spec.1).1
  exact h.bel.grown hg (by omega) (fun k hk=>by simp at hk;omega)
end
theorem aRE:(Tryz.prog.info? 174).map (fun i=>(i.zero,i.size,i.bytes))=some (some (.agg #[.slice none 0 0,.int .i64 0,.int .i64 0]),3,40):=by kernel_rfl
set_option maxRecDepth 20000 in
set_option maxHeartbeats 1600000 in
theorem aPH(w0:World)(P:Nat→Prop)(B b mb:Nat)(l:List UInt8)(vo:Value)(q:Nat)(xs:List Value)(G:Value→Option Value)(w:World)(kb ko n kc:Nat)(h:TS w0 P B b mb l vo q xs G w)(hP:∀b,P b→b<B∧aBK w0 b)(hkb:P kb)(hn:0<n)(h72:72*n≤281474976710656)(hG:G (pk kb ko n)=none)(hl:l.length≤1000000)(hq:q≤1000000)(hB:B≤w.heap.size):
  Calls Tryz.prog 123 #[.pointer (some ⟨b,0,none⟩),.slice (some ⟨kb,ko,none⟩) n kc,vo] w fun e w'=>∃vo',e=.returned vo'∧TS w0 P B b mb (l++[123]) vo' (q+1) (xs++[.slice (some ⟨kb,ko,none⟩) n kc,.int .i64 0,.int .i64 l.length]) G w':=by
 have c2:=h.ask.map
 have hvo:∃a n c,vo=.slice a n c:=by
  rcases h.row.2 with⟨hv,_⟩| ⟨g,cap,cur,hv,_⟩
  ·exact⟨_,_,_,hv⟩
  ·exact⟨_,_,_,hv⟩
 obtain⟨va,vn,vc,rfl⟩:=hvo
 have HT:=aA0 h
 go_enter Tryz.func123,Tryz.ntmps123
 go_wp2_with fail
 go_region_with (first
  |(
   go_at_call 125
   refine(aEX w.drew kb ko n kc hn h72).mono ?_
   rintro e w1 ⟨rfl,hb1⟩
   have h1:=(HT.out.drew 1).below hB hb1
   have z1:w.heap.size≤w1.heap.size:=hb1.size
   have c21:=h1.ask.map)
  |(
   go_at_call 149
   refine(aTH B b mb l kb ko n (KI P) G w1 h1.ask h1.map (h1.key hP) ⟨kb,ko,n,rfl,hkb⟩ hG).mono ?_
   rintro e w2 ⟨rfl,hb2⟩
   have h2:=h1.below (by omega) hb2
   have z2:w1.heap.size≤w2.heap.size:=hb2.size))
 all_goals
  have HL:=aA0 (lenA B b _ l w2 h2.ask)
  have HW:=aA0 (aHC B b _ l 123 w2 h2.ask (by omega) (by omega))
  have H2:=aA0 h2
  clear h1 h2 hb1 hb2 c2 c21
  go_wp2_with (first
   |(
    go_at_call 124
    refine HL.out.mono ?_
    rintro e w3 ⟨rfl,rfl⟩)
   |(
    go_at_call 115
    refine HW.out.mono ?_
    rintro e w3 ⟨rfl,h3,hb3,hk3⟩
    have h4:=H2.out.wrote h3 hb3 hk3
    have z3:=hb3.size
    obtain⟨iw,hi,hi0,hi1,hi2⟩:=info_parts aRE
    have hr:=h4.row)
   |(
    at_builtin
    refine wpList_append_lies _ rfl _ _ 170 rfl B 174 iw (.agg #[.slice none 0 0,.int .i64 0,.int .i64 0]) 3 40 Tryz.underlying170 hi hi0 hi1 hi2 rfl (by decide) _ q _ rfl (hr.alloc _) ⟨w3.heap.size,0,none⟩ 1 1 [.slice (some ⟨kb,ko,none⟩) n kc,.int .i64 0,.int .i64 l.length] rfl rfl (World.news_of_block (heap_alloc_new w3 _)) (by intro u hu;simp at hu;rcases hu with rfl| rfl| rfl<;>rfl) (by omega) (by unfold maxLen;omega) (by omega) (by simp;omega) _ rfl ?_
    intro g2 cap2 w7 hown7 hgrow7 hat7 hlt7))
  have HE:=aA0 (And.intro hown7 hgrow7)
  clear hown7 hgrow7 hat7 hr
  go_wp2_with fail
  go_ret
  refine⟨_,rfl,?_⟩
  exact(h4.below (by omega) (aA2 w3 _)).pushed (by simp;omega) HE.out.2 HE.out.1
set_option maxRecDepth 20000 in
set_option maxHeartbeats 1600000 in
theorem aQQ(w0:World)(P:Nat→Prop)(B b mb:Nat)(l:List UInt8)(vo:Value)(q:Nat)(xs:List Value)(G:Value→Option Value)(w:World)(kb ko n kc x y:Nat)(h:TS w0 P B b mb l vo q xs G w)(hP:∀b,P b→b<B∧aBK w0 b)(hkb:P kb)(hn:0<n)(h72:72*n≤281474976710656)(hG:G (pk kb ko n)=some (aMD x y))(hxy:x≤y)(hy:y≤l.length)(hl:l.length≤1000000)(hl0:0<l.length)(hB:B≤w.heap.size):
  Calls Tryz.prog 123 #[.pointer (some ⟨b,0,none⟩),.slice (some ⟨kb,ko,none⟩) n kc,vo] w fun e w'=>e=.returned vo∧TS w0 P B b mb (l++(l.drop x).take (y- x)) vo q xs G w':=by
 have c2:=h.ask.map
 have hvo:∃a n c,vo=.slice a n c:=by
  rcases h.row.2 with⟨hv,_⟩| ⟨g,cap,cur,hv,_⟩
  ·exact⟨_,_,_,hv⟩
  ·exact⟨_,_,_,hv⟩
 obtain⟨va,vn,vc,rfl⟩:=hvo
 have HT:=aA0 h
 go_enter Tryz.func123,Tryz.ntmps123
 go_wp2_with fail
 go_region_with (first
  |(
   go_at_call 125
   refine(aEX w.drew kb ko n kc hn h72).mono ?_
   rintro e w1 ⟨rfl,hb1⟩
   have h1:=(HT.out.drew 1).below hB hb1
   have z1:w.heap.size≤w1.heap.size:=hb1.size
   have c21:=h1.ask.map)
  |(
   go_at_call 149
   refine(aRC B b mb l kb ko n x y (KI P) G w1 h1.ask h1.map (h1.key hP) ⟨kb,ko,n,rfl,hkb⟩ hG hxy hy hl hl0 (by omega)).mono ?_
   rintro e w2 ⟨rfl,ha2,hb2,hk2⟩
   have H2:=aA0 (h1.wrote ha2 hb2 hk2)
   clear ha2))
 all_goals
  go_wp2_with fail
  go_ret
  exact⟨rfl,H2.out⟩
end Go.Proofs.YtokmgbidmnanpaaGreatDoor
