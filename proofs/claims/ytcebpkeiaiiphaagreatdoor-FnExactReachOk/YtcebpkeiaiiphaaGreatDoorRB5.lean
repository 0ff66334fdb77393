import Derived.Test.YtcebpkeiaiiphaaGreatDoorRB4
import Derived.Deep.AppendLies
import Derived.Laws.AppendOwnNone
set_option linter.unusedSimpArgs false
set_option linter.unusedVariables false
namespace Go.Proofs.YtcebpkeiaiiphaaGreatDoor
open Go.RowKit
def aA9(p:Nat→Bool)(n:Nat):Int:=match (List.range n).find? p with
 |some i=>i
 |none=>-1
theorem aB2{p:Nat→Bool}{n:Nat}(h:∀i,i<n→p i=false):aA9 p n=-1:=by
 have:(List.range n).find? p=none:=by
  rw[List.find?_eq_none];intro i hi;simpa using h i (by simpa using hi)
 rw[aA9,this]
theorem aAU{p:Nat→Bool}{n k:Nat}(h:∀i,i<k→p i=false)(hk:p k=true)(hn:k<n):aA9 p n=k:=by
 have:(List.range n).find? p=some k:=by
  rw[List.find?_range_eq_some]
  exact⟨hk,by simpa using hn,fun i hi=>by simpa using h i hi⟩
 rw[aA9,this]
theorem aA8(p:Nat→Bool)(n:Nat):(aA9 p n=-1∧∀i,i<n→p i=false)∨∃k:Nat,aA9 p n=k∧k<n∧p k=true∧∀i,i<k→p i=false:=by
 cases h:(List.range n).find? p with
 |none=>
  left
  refine⟨by rw[aA9,h],fun i hi=>?_⟩
  rw[List.find?_eq_none] at h
  simpa using h i (by simpa using hi)
 |some k=>
  right
  rw[List.find?_range_eq_some] at h
  exact⟨k,by rw[aA9,List.find?_range_eq_some.2 h],by simpa using h.2.1,h.1,fun i hi=>by simpa using h.2.2 i hi⟩
set_option maxHeartbeats 400000 in
theorem aDI(p:Pt)(w:World)(B:Nat)(v:Value)(s:ByteArray)(hR:PRep w (·<B) p v)(hB:B≤w.heap.size):
  Calls Tryz.prog 62 #[v,.string s] w fun e w'=>e=.returned (.int .i64 (aA9 (fun i=>(tth p.types i).name.toList==s.toList) p.types.length))∧Below w.heap.size w w':=by
 obtain⟨name,types⟩:=p
 obtain⟨ta,tc,rfl,hK,hnc,hn⟩:=hR
 simp only at hK hnc hn ⊢
 have h3:=hK.1
 obtain⟨-,C,hA,hr⟩:=hK
 by_cases hn0:types.length=0
 ·go_enter Tryz.func62,Tryz.ntmps62
  go_wp2_with fail
  go_loop [5] (fun i=>i=.int .i64 0) (fun _=>0)
  case atStart=>rfl
  case round=>
   subst hrel
   go_wp2_with fail
   go_ret
   exact⟨aBZ (by first| rfl| (rw[hn0];rfl)),aA2 _ _⟩
 ·obtain⟨b,off,rfl,hbB,hc⟩:=hA (by omega)
  have hcell:∀k,k<types.length→∀o,(w.alloc o).cell? ⟨b,off+k*3,none⟩=some (.string (tth types k).name):=fun k hk o=>by
   have h1:=hc k hk 0 (by omega)
   have h2:C k 0=.string (tth types k).name:=by
    obtain⟨x,y,hv,-⟩:=hr k hk
    simp only[Value.agg.injEq,Array.mk.injEq,List.cons.injEq] at hv
    exact hv.1
   rw[h2] at h1
   exact((aA2 w o).cell (p:=⟨b,off+k*3,none⟩) (by show b<_;omega)).trans h1
  clear hc
  go_enter Tryz.func62,Tryz.ntmps62
  go_wp2_with fail
  go_loop [5] (fun i=>∃k:Nat,k≤types.length∧i=.int .i64 k∧∀j,j<k→((tth types j).name.toList==s.toList)=false) (fun i=>types.length- (intOf i).toNat)
  case atStart=>exact⟨0,Nat.zero_le _,rfl,fun j hj=>by omega⟩
  case round=>
   obtain⟨k,hk,rfl,hp⟩:=hrel
   have HP:Hid (∀j,j<k→((tth types j).name.toList==s.toList)=false):=hp
   clear hp
   by_cases hlt:k<types.length
   ·have hck:=hcell k hlt
    clear hcell
    cases he:((tth types k).name.toList==s.toList)
    ·go_wp2_with fail
     go_round
     case rel=>exact⟨k+1,by omega,by go_num,fun j hj=>by by_cases e:j=k;(subst e;exact he);exact HP.out j (by omega)⟩
     case measure=>simp[intOf];omega
    ·go_wp2_with fail
     go_ret
     exact⟨aBZ (aAU HP.out he hlt).symm,aA2 _ _⟩
   ·go_wp2_with fail
    go_ret
    have e:k=types.length:=by omega
    exact⟨aBZ (aB2 (e▸HP.out)).symm,aA2 _ _⟩
set_option maxHeartbeats 400000 in
theorem aCV(t:T)(w:World)(B:Nat)(v:Value)(s:ByteArray)(hR:TRep w (·<B) t v)(hB:B≤w.heap.size):
  Calls Tryz.prog 63 #[v,.string s] w fun e w'=>e=.returned (.int .i64 (aA9 (fun i=>(fth t.fields i).name.toList==s.toList) t.fields.length))∧Below w.heap.size w w':=by
 obtain⟨name,key,fields⟩:=t
 obtain⟨ta,tc,rfl,hK,hnc,hn,ho⟩:=hR
 simp only at hK hnc hn ho ⊢
 have h3:=hK.1
 obtain⟨-,C,hA,hr⟩:=hK
 by_cases hn0:fields.length=0
 ·go_enter Tryz.func63,Tryz.ntmps63
  go_wp2_with fail
  go_loop [5] (fun i=>i=.int .i64 0) (fun _=>0)
  case atStart=>rfl
  case round=>
   subst hrel
   go_wp2_with fail
   go_ret
   exact⟨aBZ (by first| rfl| (rw[hn0];rfl)),aA2 _ _⟩
 ·obtain⟨b,off,rfl,hbB,hc⟩:=hA (by omega)
  have hcell:∀k,k<fields.length→∀o,(w.alloc o).cell? ⟨b,off+k*8,none⟩=some (.string (fth fields k).name):=fun k hk o=>by
   have h1:=hc k hk 0 (by omega)
   have h2:C k 0=.string (fth fields k).name:=by
    obtain⟨x,y,hv,-⟩:=hr k hk
    simp only[Value.agg.injEq,Array.mk.injEq,List.cons.injEq] at hv
    exact hv.1
   rw[h2] at h1
   exact((aA2 w o).cell (p:=⟨b,off+k*8,none⟩) (by show b<_;omega)).trans h1
  clear hc
  go_enter Tryz.func63,Tryz.ntmps63
  go_wp2_with fail
  go_loop [5] (fun i=>∃k:Nat,k≤fields.length∧i=.int .i64 k∧∀j,j<k→((fth fields j).name.toList==s.toList)=false) (fun i=>fields.length- (intOf i).toNat)
  case atStart=>exact⟨0,Nat.zero_le _,rfl,fun j hj=>by omega⟩
  case round=>
   obtain⟨k,hk,rfl,hp⟩:=hrel
   have HP:Hid (∀j,j<k→((fth fields j).name.toList==s.toList)=false):=hp
   clear hp
   by_cases hlt:k<fields.length
   ·have hck:=hcell k hlt
    clear hcell
    cases he:((fth fields k).name.toList==s.toList)
    ·go_wp2_with fail
     go_round
     case rel=>exact⟨k+1,by omega,by go_num,fun j hj=>by by_cases e:j=k;(subst e;exact he);exact HP.out j (by omega)⟩
     case measure=>simp[intOf];omega
    ·go_wp2_with fail
     go_ret
     exact⟨aBZ (aAU HP.out he hlt).symm,aA2 _ _⟩
   ·go_wp2_with fail
    go_ret
    have e:k=fields.length:=by omega
    exact⟨aBZ (aB2 (e▸HP.out)).symm,aA2 _ _⟩
set_option maxHeartbeats 400000 in
theorem aFT(s:ByteArray)(w:World):
  Calls Tryz.prog 59 #[.string s] w fun e w'=>e=.returned (.bool (aAV s))∧w=w':=by
 cases h1:(s.toList==[105,110,116])<;>cases h2:(s.toList==[116,101,120,116])<;>
 ·go_enter Tryz.func59,Tryz.ntmps59
  go_wp2_with fail
  go_ret
  exact⟨aA4 (by simp only[aAV,isT,h1,h2];rfl),rfl⟩
def aI5(s:ByteArray):Bool:=isT s [112,97,114,116]||isT s [116,121,112,101]||isT s [107,101,121]||isT s [102,97,114]||isT s [104,105,100,100,101,110]||isT s [115,104,97,114,101,100]||isT s [110,101,101,100,115]||aAV s
set_option maxHeartbeats 1600000 in
theorem aPR(s:ByteArray)(w:World):
  Calls Tryz.prog 130 #[.string s] w fun e w'=>e=.returned (.bool (aI5 s))∧w=w':=by
 cases k0:(s.toList==[112,97,114,116])
 case true=>
  go_enter Tryz.func130,Tryz.ntmps130
  go_wp2_with fail
  go_ret
  exact⟨aA4 (by simp[aI5,isT,k0]),rfl⟩
 cases k1:(s.toList==[116,121,112,101])
 case true=>
  go_enter Tryz.func130,Tryz.ntmps130
  go_wp2_with fail
  go_ret
  exact⟨aA4 (by simp[aI5,isT,k1]),rfl⟩
 cases k2:(s.toList==[107,101,121])
 case true=>
  go_enter Tryz.func130,Tryz.ntmps130
  go_wp2_with fail
  go_ret
  exact⟨aA4 (by simp[aI5,isT,k2]),rfl⟩
 cases k3:(s.toList==[102,97,114])
 case true=>
  go_enter Tryz.func130,Tryz.ntmps130
  go_wp2_with fail
  go_ret
  exact⟨aA4 (by simp[aI5,isT,k3]),rfl⟩
 cases k4:(s.toList==[104,105,100,100,101,110])
 case true=>
  go_enter Tryz.func130,Tryz.ntmps130
  go_wp2_with fail
  go_ret
  exact⟨aA4 (by simp[aI5,isT,k4]),rfl⟩
 cases k5:(s.toList==[115,104,97,114,101,100])
 case true=>
  go_enter Tryz.func130,Tryz.ntmps130
  go_wp2_with fail
  go_ret
  exact⟨aA4 (by simp[aI5,isT,k5]),rfl⟩
 cases k6:(s.toList==[110,101,101,100,115])
 case true=>
  go_enter Tryz.func130,Tryz.ntmps130
  go_wp2_with fail
  go_ret
  exact⟨aA4 (by simp[aI5,isT,k6]),rfl⟩
 go_enter Tryz.func130,Tryz.ntmps130
 go_wp2_with (go_at_call 59;refine(aFT _ _).mono ?_;rintro e w' ⟨rfl,rfl⟩)
 go_ret
 exact⟨aA4 (by simp[aI5,isT,k0,k1,k2,k3,k4,k5,k6]),rfl⟩
theorem aSL(s:ByteArray):aBA s=(decide (s.size≤8)&&aES s&&!(aAL s 0==95)&&!aI5 s):=by
 simp only[aBA,aI5]
 cases aES s<;>cases decide (s.size≤8)<;>cases (aAL s 0==95)<;>cases aAV s<;>simp[Bool.and_assoc]
set_option maxHeartbeats 1600000 in
theorem aDK(s:ByteArray)(w:World)(hs:s.size≤maxLen):
  Calls Tryz.prog 94 #[.string s] w fun e w'=>e=.returned (.bool (aBA s))∧w=w':=by
 rw[aSL]
 have hcw:=fun w=>aP7 s w hs
 have hck:=fun w=>aPR s w
 by_cases h8:s.size≤8
 case neg=>
  have h8':¬(s.size:Int)≤8:=by omega
  have h8d:decide ((s.size:Int)≤8)=false:=by simpa using h8'
  go_enter Tryz.func94,Tryz.ntmps94
  go_wp2_with fail
  go_ret
  exact⟨aA4 (by simp[h8]),rfl⟩
 have h8':(s.size:Int)≤8:=by omega
 have H8:Hid (decide (s.size≤8)=true):=by show _=_;simpa using h8
 cases hw:aES s
 ·rw[hw] at hcw
  go_enter Tryz.func94,Tryz.ntmps94
  go_wp2_with (go_at_call 129;refine(hcw _).mono ?_;rintro e w' ⟨rfl,rfl⟩)
  go_ret
  exact⟨aA4 (by simp),rfl⟩
 rw[hw] at hcw
 have h1:0<s.size:=by
  rw[aES] at hw;simp only[Bool.and_eq_true,decide_eq_true_eq] at hw;omega
 have hb0:=aEK s 0 h1
 cases hu:(aAL s 0==95)
 case true=>
  have hu':(aAL s 0 !=95)=false:=by simp only[bne,hu];rfl
  go_enter Tryz.func94,Tryz.ntmps94
  go_wp2_with (go_at_call 129;refine(hcw _).mono ?_;rintro e w' ⟨rfl,rfl⟩)
  go_ret
  exact⟨aA4 (by simp),rfl⟩
 have hu':(aAL s 0 !=95)=true:=by simp only[bne,hu];rfl
 cases hk:aI5 s
 all_goals
  rw[hk] at hck
  go_enter Tryz.func94,Tryz.ntmps94
  go_wp2_with (first| (go_at_call 129;refine(hcw _).mono ?_;rintro e w' ⟨rfl,rfl⟩)| (go_at_call 130;refine(hck _).mono ?_;rintro e w' ⟨rfl,rfl⟩))
  go_ret
  exact⟨aA4 (by simp[H8.out]),rfl⟩
def ith(ns:List Int)(i:Nat):Int:=ns.getD i 0
def Ints(w:World)(P:Nat→Prop)(ns:List Int)(a:Option Addr):Prop:=
 8*ns.length≤281474976710656∧(0<ns.length→∃b off,a=some ⟨b,off,none⟩∧P b∧∀i,i<ns.length→w.cell? ⟨b,off+i,none⟩=some (.int .i64 (ith ns i)))
theorem Ints.mono{w w':World}{P:Nat→Prop}{ns:List Int}{a:Option Addr}(h:Ints w P ns a)(e:∀k,P k→w'.heap[k]?=w.heap[k]?):Ints w' P ns a:=by
 refine⟨h.1,fun hn=>?_⟩
 obtain⟨b,off,ha,hP,hc⟩:=h.2 hn
 exact⟨b,off,ha,hP,fun i hi=>(World.cell?_of_block (w:=w) (a:=⟨b,off+i,none⟩) (e b hP)).trans (hc i hi)⟩
theorem Ints.sub{w:World}{P Q:Nat→Prop}{ns:List Int}{a:Option Addr}(h:Ints w P ns a)(e:∀k,P k→Q k):Ints w Q ns a:=by
 refine⟨h.1,fun hn=>?_⟩
 obtain⟨b,off,ha,hP,hc⟩:=h.2 hn
 exact⟨b,off,ha,e _ hP,hc⟩
theorem Ints.nil(w:World)(P:Nat→Prop)(a:Option Addr):Ints w P [] a:=⟨by simp,fun h=>by simp at h⟩
theorem aVJ:(Tryz.prog.info? 3).map (fun i=>(i.zero,i.size,i.bytes))=some (some (.int .i64 0),1,8):=by kernel_rfl
structure O where
 type:ByteArray
 field:ByteArray
 parts:List Int
def O.zero:O:=⟨ByteArray.empty,ByteArray.empty,[]⟩
def oth(ts:List O)(i:Nat):O:=ts.getD i O.zero
def ORep(w:World)(P:Nat→Prop)(t:O)(v:Value):Prop:=∃(fa:Option Addr) (fc:Nat),
 v=.agg #[.string t.type,.string t.field,.slice fa t.parts.length fc]∧Ints w P t.parts fa∧t.parts.length≤fc∧t.type.size≤maxLen∧t.field.size≤maxLen
def aHG(w:World)(P:Nat→Prop)(ts:List O)(a:Option Addr):Prop:=56*ts.length≤281474976710656∧∃C:Nat→Nat→Value,Arr w P 3 ts.length a C∧∀i,i<ts.length→ORep w P (oth ts i) (.agg #[C i 0,C i 1,C i 2])
theorem ORep.mono{w w':World}{P:Nat→Prop}{t:O}{v:Value}(h:ORep w P t v)(e:∀k,P k→w'.heap[k]?=w.heap[k]?):ORep w' P t v:=by
 obtain⟨fa,fc,h1,h2,h3⟩:=h;exact⟨fa,fc,h1,h2.mono e,h3⟩
theorem ORep.sub{w:World}{P Q:Nat→Prop}{t:O}{v:Value}(h:ORep w P t v)(e:∀k,P k→Q k):ORep w Q t v:=by
 obtain⟨fa,fc,h1,h2,h3⟩:=h;exact⟨fa,fc,h1,h2.sub e,h3⟩
theorem aHG.mono{w w':World}{P:Nat→Prop}{f:List O}{v:Option Addr}(h:aHG w P f v)(e:∀k,P k→w'.heap[k]?=w.heap[k]?):aHG w' P f v:=by
 obtain⟨h0,C,h1,h2⟩:=h;exact⟨h0,C,h1.mono e,fun i hi=>(h2 i hi).mono e⟩
theorem aHG.sub{w:World}{P Q:Nat→Prop}{f:List O}{v:Option Addr}(h:aHG w P f v)(e:∀k,P k→Q k):aHG w Q f v:=by
 obtain⟨h0,C,h1,h2⟩:=h;exact⟨h0,C,h1.sub e,fun i hi=>(h2 i hi).sub e⟩
structure Ch where
 all:Pt
 owners:List O
def CRep(w:World)(P:Nat→Prop)(c:Ch)(v:Value):Prop:=∃(ta oa:Option Addr) (tc oc:Nat),
 v=.agg #[.string c.all.name,.slice ta c.all.types.length tc,.slice oa c.owners.length oc]∧PRep w P c.all (.agg #[.string c.all.name,.slice ta c.all.types.length tc])∧aHG w P c.owners oa∧c.owners.length≤oc
theorem aNJ{B:Nat}{a w w':World}(h:Below B a w)(hg:w.grownBy w' none)(hB:B≤w.heap.size):Below B a w':=
 h.trans ⟨hg.os,hg.tape,hg.output,hg.size,fun k hk=>hg.block k (by omega) (by simp)⟩
theorem aRX(ns:List ByteArray)(j:Nat)(u:Value)(h:(ns.map Value.string)[j]?=some u):j<ns.length∧u=.string (nth ns j):=by
 rw[List.getElem?_map] at h
 obtain⟨b,hb,rfl⟩:=Option.map_eq_some_iff.1 h
 obtain⟨hj,rfl⟩:=List.getElem?_eq_some_iff.1 hb
 exact⟨hj,by simp[nth,List.getD_eq_getElem?_getD,hj]⟩
theorem aN0{w:World}{g:Nat}{cur:Array Value}{e:TypeId}(h:w.heap[g]?=some (.cells cur e (0,0)))(o:Nat):w.frozen? ⟨g,o,none⟩=false:=by simp[World.frozen?,h]
theorem aIM{w:World}{base:Nat}{ns:List ByteArray}{g cap:Nat}(h:w.ownsRow base 9 1 (.slice (some ⟨g,0,none⟩) ns.length cap) ns.length (ns.map Value.string))(h2:∀i,(nth ns i).size≤maxLen)(h3:ns.length≤maxLen)(hlt:g<w.heap.size):
  Strs w (fun b=>base≤b∧b<w.heap.size) ns (some ⟨g,0,none⟩)∧ns.length≤cap∧aFV w base w.heap.size ns.length (some ⟨g,0,none⟩):=by
 have hb:base≤g∧ns.length≤cap∧∀o,w.frozen? ⟨g,o,none⟩=false:=by
  rcases h.2 with⟨h',_⟩| ⟨g',cap',cur,h',hb,hh,hn,_⟩
  ·simp at h'
  ·simp only[Value.slice.injEq,Option.some.injEq,Addr.mk.injEq,and_true,true_and] at h'
   obtain⟨rfl,rfl⟩:=h'
   exact⟨hb,hn,aN0 hh⟩
 have hc:∀i,i<ns.length→w.cell? ⟨g,0+i,none⟩=some (.string (nth ns i)):=fun i hi=>by
  have:=h.cellAt i (by omega)
  rw[Nat.zero_add,this,List.getElem?_map]
  simp[nth,List.getD_eq_getElem?_getD,hi]
 exact⟨⟨fun _=>⟨g,0,rfl,⟨hb.1,hlt⟩,hc⟩,h2,h3⟩,hb.2.1,fun _=>⟨g,0,rfl,hb.1,hlt,fun i hi=>⟨⟨_,hc i hi⟩,hb.2.2 _⟩⟩⟩
set_option maxHeartbeats 400000 in
theorem aJX(ns:List ByteArray)(a:Option Addr)(c:Nat)(w:World)(P:Nat→Prop)(hS:Strs w P ns a)(hb:16*ns.length≤140737488355328):
  Calls Tryz.prog 57 #[.slice a ns.length c] w fun e w'=>∃(a':Option Addr) (c':Nat),e=.returned (.slice a' ns.length c')∧ns.length≤c'∧Below w.heap.size w w'∧Strs w' (fun b=>w.heap.size≤b∧b<w'.heap.size) ns a'∧aFV w' w.heap.size w'.heap.size ns.length a':=by
 obtain⟨h1,h2,h3⟩:=hS
 obtain⟨i0,hi,hz0,hz1,hz2⟩:=info_parts aQ7
 by_cases hn0:ns.length=0
 ·have hns:ns=[]:=by simpa using hn0
  subst hns
  cases a with
  |none=>
   go_enter Tryz.func57,Tryz.ntmps57
   go_wp2_with fail
   go_ret
   exact⟨none,0,rfl,by simp,Below.refl _ _,⟨fun h=>absurd rfl h,h2,h3⟩,fun h=>by simp at h⟩
  |some ad=>
   go_enter Tryz.func57,Tryz.ntmps57
   go_wp2_with fail
   go_ret
   exact⟨none,0,rfl,by simp,Below.refl _ _,⟨fun h=>absurd rfl h,h2,h3⟩,fun h=>by simp at h⟩
 ·obtain⟨b,off,rfl,_,hc⟩:=h1 (by intro e;simp[e] at hn0)
  clear h1
  go_enter Tryz.func57,Tryz.ntmps57
  go_wp2_with (at_builtin;refine wpList_append_lies _ rfl _ _ 33 rfl w.heap.size 9 i0 (.string ByteArray.empty) 1 16 Tryz.underlying33 hi hz0 hz1 hz2 rfl (by decide) (.slice none 0 0) 0 [] rfl (World.ownsRow_nil _ _ _ _) ⟨b,off,none⟩ ns.length c (ns.map Value.string) rfl (by simp) ?c1 ?c2 (by omega) ?c3 (by omega) (Nat.le_refl _) _ rfl ?_)
  case c1=>
   intro j u hj
   obtain⟨hj',rfl⟩:=aRX ns j u hj
   rw[Addr.add_lit]
   exact hc j hj'
  case c2=>intro u hu;simp at hu;obtain⟨x,-,rfl⟩:=hu;rfl
  case c3=>omega
  intro g cap w1 hown hgrow hat hlt
  go_wp2_with fail
  go_ret
  have hS:=aIM (base:=w.heap.size) (by simpa using hown) h2 h3 hlt
  exact⟨_,cap,by simp,hS.2.1,aNJ (Below.refl _ _) hgrow (Nat.le_refl _),hS.1,hS.2.2⟩
end Go.Proofs.YtcebpkeiaiiphaaGreatDoor
