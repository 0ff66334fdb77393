import Derived.Test.YtcebpkeiaiiphaaGreatDoorRB48
set_option linter.unusedSimpArgs false
set_option linter.unusedVariables false
namespace Go.Proofs.YtcebpkeiaiiphaaGreatDoor
open Go.RowKit Go.Maps
set_option maxHeartbeats 400000 in
theorem aEV(ns:List ByteArray)(a:Option Addr)(c:Nat)(w:World)(P:Nat→Prop)(hS:Strs w P ns a)(hb:16*ns.length≤140737488355328):
  Calls Tryz.prog 57 #[.slice a ns.length c] w fun e w'=>∃v:Value,e=.returned v∧w'.ownsRow w.heap.size 9 1 v ns.length (ns.map Value.string)∧Below w.heap.size w w':=by
 obtain⟨h1,h2,h3⟩:=hS
 obtain⟨i0,hi,hz0,hz1,hz2⟩:=info_parts aQ7
 by_cases hn0:ns.length=0
 ·have hns:ns=[]:=by simpa using hn0
  subst hns
  cases a with
  |none=>
   go_enter Tryz.func57,Tryz.ntmps57
   go_wp2_with fail
   go_ret
   exact⟨_,rfl,World.ownsRow_nil _ _ _ _,Below.refl _ _⟩
  |some ad=>
   go_enter Tryz.func57,Tryz.ntmps57
   go_wp2_with fail
   go_ret
   exact⟨_,rfl,World.ownsRow_nil _ _ _ _,Below.refl _ _⟩
 ·obtain⟨b,off,rfl,_,hc⟩:=h1 (by intro e;simp[e] at hn0)
  clear h1
  go_enter Tryz.func57,Tryz.ntmps57
  go_wp2_with (at_builtin;refine wpList_append_lies _ rfl _ _ 33 rfl w.heap.size 9 i0 (.string ByteArray.empty) 1 16 Tryz.underlying33 hi hz0 hz1 hz2 rfl (by decide) (.slice none 0 0) 0 [] rfl (World.ownsRow_nil _ _ _ _) ⟨b,off,none⟩ ns.length c (ns.map Value.string) rfl (by simp) ?c1 ?c2 (by omega) ?c3 (by omega) (Nat.le_refl _) _ rfl ?_)
  case c1=>
   intro j u hj
   obtain⟨hj',rfl⟩:=aRX ns j u hj
   rw[Addr.add_lit]
   exact hc j hj'
  case c2=>
   intro u hu
   obtain⟨s,-,rfl⟩:=List.mem_map.1 hu
   rfl
  case c3=>omega
  intro g cap w' hown hgrow hat hlt
  have HO:=aA0 hown
  have HB:=aA0 ((Below.refl w.heap.size w).grown hgrow (Nat.le_refl _) (fun k hk=>by simp[Value.ownBlock] at hk))
  clear hown hgrow hat
  go_wp2_with fail
  go_ret
  exact⟨_,rfl,by simpa using HO.out,HB.out⟩
structure FrmP(base Lw:Nat)(w X:World)(N m:Nat)(sv:Value)(W:World):Prop where
 old:Below base w W
 size:X.heap.size≤W.heap.size
 blk:∀b,Lw≤b→b<X.heap.size→W.heap[b]?=X.heap[b]?
 rS:∀g,sv.ownBlock=some g→base≤g∧(g<Lw∨X.heap.size≤g)
 nL:N<Lw
 mL:m<Lw
 bN:base≤N
 bm:base≤m
 nX:Lw≤X.heap.size
theorem FrmP.keep{base Lw N m:Nat}{w X W W':World}{sv:Value}(h:FrmP base Lw w X N m sv W)(hb:Below W.heap.size W W'):FrmP base Lw w X N m sv W':=by
 have h1:=h.nL;have h2:=h.bN;have h3:=h.nX;have h4:=h.size
 exact⟨h.old.trans (hb.mono (by omega)),Nat.le_trans h.size hb.size,fun b hb1 hb2=>(hb.block b (by omega)).trans (h.blk b hb1 hb2),h.rS,h.nL,h.mL,h.bN,h.bm,h.nX⟩
theorem FrmP.chg{base Lw N m:Nat}{w X W W':World}{sv sv':Value}(h:FrmP base Lw w X N m sv W)(hc:ChgP N m sv W W')(hn:∀g,sv'.ownBlock=some g→sv.ownBlock=some g∨W.heap.size≤g):FrmP base Lw w X N m sv' W':=by
 have h1:=h.nL;have h2:=h.bN;have h3:=h.nX;have h4:=h.size;have h5:=h.mL;have h6:=h.bm
 refine⟨⟨hc.os.trans h.old.os,hc.tape.trans h.old.tape,hc.output.trans h.old.output,Nat.le_trans h.old.size hc.size,fun b hb=>(hc.block b (by omega) (by omega) (by omega) fun e=>by have:=(h.rS b e).1;omega).trans (h.old.block b hb)⟩,Nat.le_trans h.size hc.size,fun b hb1 hb2=>(hc.block b (by omega) (by omega) (by omega) fun e=>by have:=(h.rS b e).2;omega).trans (h.blk b hb1 hb2),fun g e=>?_,h1,h5,h2,h6,h3⟩
 rcases hn g e with e1| e1
 ·exact h.rS g e1
 ·omega
theorem aOX(ps:List Pt)(s:Sta)(way:List ByteArray)(L M:List F)(K:Wk):∀j,j≤L.length→K.flds ps s way (L++M) j=K.flds ps s way L j
 |0,_=>rfl
 |j+1,h=>by
  have e:fth (L++M) j=fth L j:=by simp[fth,List.getD_eq_getElem?_getD,List.getElem?_append_left (show j<L.length by omega)]
  show(K.flds ps s way (L++M) j).fld ps s way (fth (L++M) j)=(K.flds ps s way L j).fld ps s way (fth L j)
  rw[aOX ps s way L M K j (by omega),e]
theorem aMQ(ps:List Pt)(s:Sta)(way:List ByteArray)(fs:List F)(K:Wk):∀k,K.flds ps s way fs k=K.flds ps s way (aAT fs k) (aAT fs k).length
 |0=>rfl
 |k+1=>by
  show(K.flds ps s way fs k).fld ps s way (fth fs k)=_
  rw[aMQ ps s way fs K k,aAT]
  by_cases h:(fth fs k).hidden=true
  ·rw[if_pos h,List.append_nil]
   unfold Wk.fld
   rw[if_pos h]
  ·rw[if_neg h,List.length_append,List.length_singleton]
   show _=(K.flds ps s way (aAT fs k++[aJF (fth fs k)]) (aAT fs k).length).fld ps s way (fth (aAT fs k++[aJF (fth fs k)]) (aAT fs k).length)
   rw[aOX ps s way _ _ K _ (Nat.le_refl _)]
   have e:fth (aAT fs k++[aJF (fth fs k)]) (aAT fs k).length=aJF (fth fs k):=by simp[fth,List.getD_eq_getElem?_getD]
   rw[e]
   rfl
theorem aPD(fs:List F)(k i:Nat)(hi:i<(aAT fs k).length):(fth (aAT fs k) i).hidden=false:=by
 induction k with
 |zero=>simp[aAT] at hi
 |succ k ih=>
  rw[aAT] at hi ⊢
  by_cases h:i<(aAT fs k).length
  ·have e:fth (aAT fs k++if(fth fs k).hidden=true then[] else[aJF (fth fs k)]) i=fth (aAT fs k) i:=by simp[fth,List.getD_eq_getElem?_getD,List.getElem?_append_left h]
   rw[e];exact ih h
  ·by_cases hh:(fth fs k).hidden=true
   ·rw[if_pos hh,List.append_nil] at hi;omega
   ·rw[if_neg hh,List.length_append,List.length_singleton] at hi
    have e2:i=(aAT fs k).length:=by omega
    subst e2
    rw[if_neg hh]
    have e:fth (aAT fs k++[aJF (fth fs k)]) (aAT fs k).length=aJF (fth fs k):=by simp[fth,List.getD_eq_getElem?_getD]
    rw[e]
    simpa[aJF] using hh
theorem aR6(ps:List Pt)(all:Pt)(i:Nat)(K:Wk):K.turn ps all i=K.flds ps (sta K.st i) (wth K.wy i) (aAT (aA7 all (sta K.st i).type).fields (aA7 all (sta K.st i).type).fields.length) (aAT (aA7 all (sta K.st i).type).fields (aA7 all (sta K.st i).type).fields.length).length:=aMQ ps _ _ _ K _
theorem aTL{ps:List Pt}{all:Pt}{n j:Nat}{s:Sta}{way:List ByteArray}{L:List F}(hn:n<wkN ps all)(hT:wkTo ps all (n+1)=(wkTo ps all n).flds ps s way L L.length)(hj:j<L.length)(h:((wkTo ps all n).flds ps s way L (j+1)).bad.length≠0):
  (wkE ps all).bad=((wkTo ps all n).flds ps s way L (j+1)).bad:=by
 have h1:=Wk.flds_bad ps s way L (wkTo ps all n) (j+1) h (L.length- (j+1))
 rw[show j+1+(L.length- (j+1))=L.length by omega,←hT] at h1
 have h3:=aO9 ps all (n+1) (by rw[h1];exact h) (wkN ps all- (n+1))
 rw[show n+1+(wkN ps all- (n+1))=wkN ps all by omega] at h3
 exact h3.trans h1
end Go.Proofs.YtcebpkeiaiiphaaGreatDoor
