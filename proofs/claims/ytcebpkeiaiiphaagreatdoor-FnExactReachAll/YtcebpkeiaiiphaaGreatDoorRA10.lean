import Derived.Test.YtcebpkeiaiiphaaGreatDoorRA8
set_option linter.unusedSimpArgs false
set_option linter.unusedVariables false
namespace Go.Proofs.YtcebpkeiaiiphaaGreatDoor
open Go.RowKit Go.Maps
structure Sta where
 part:Nat
 type:ByteArray
def qry:ByteArray:=⟨#[113,117,101,114,121]⟩
def Sta.zero:Sta:=⟨0,ByteArray.empty⟩
def sta(ss:List Sta)(i:Nat):Sta:=ss.getD i Sta.zero
def aFU(w:World)(P:Nat→Prop)(ss:List Sta)(a:Option Addr):Prop:=∃C:Nat→Nat→Value,Arr w P 2 ss.length a C∧∀i,i<ss.length→C i 0=.int .i64 (sta ss i).part∧C i 1=.string (sta ss i).type
theorem aFU.mono{w w':World}{P:Nat→Prop}{ss:List Sta}{a:Option Addr}(h:aFU w P ss a)(e:∀k,P k→w'.heap[k]?=w.heap[k]?):aFU w' P ss a:=by
 obtain⟨C,h1,h2⟩:=h;exact⟨C,h1.mono e,h2⟩
theorem aFU.sub{w:World}{P Q:Nat→Prop}{ss:List Sta}{a:Option Addr}(h:aFU w P ss a)(e:∀k,P k→Q k):aFU w Q ss a:=by
 obtain⟨C,h1,h2⟩:=h;exact⟨C,h1.sub e,h2⟩
theorem aFU.at{w:World}{P:Nat→Prop}{ss:List Sta}{a:Option Addr}(h:aFU w P ss a)(i:Nat)(hi:i<ss.length):∃b off,a=some ⟨b,off,none⟩∧P b∧w.cell? ⟨b,off+i*2,none⟩=some (.int .i64 (sta ss i).part)∧w.cell? ⟨b,off+i*2+1,none⟩=some (.string (sta ss i).type):=by
 obtain⟨C,hA,hr⟩:=h
 obtain⟨b,off,rfl,hb,hc⟩:=hA (by omega)
 refine⟨b,off,rfl,hb,?_,?_⟩
 ·rw[←(hr i hi).1];exact hc i hi 0 (by omega)
 ·rw[←(hr i hi).2];exact hc i hi 1 (by omega)
def aLD(s:Sta):List Value:=[.int .i64 s.part,.string s.type]
def aDH:List Sta→List Value
 |[]=>[]
 |s::r=>aLD s++aDH r
theorem aJH:∀(a:List Sta) (f:Sta),aDH (a++[f])=aDH a++aLD f
 |[],f=>by simp[aDH]
 |x::r,f=>by rw[List.cons_append,aDH,aDH,aJH r f,List.append_assoc]
theorem aP4:∀(a:List Sta) (i:Nat),i<a.length→(aDH a)[i*2]?=some (.int .i64 (sta a i).part)∧(aDH a)[i*2+1]?=some (.string (sta a i).type)
 |[],i,h=>by simp at h
 |x::r,0,h=>by simp[aDH,aLD,sta]
 |x::r,i+1,h=>by
  have ih:=aP4 r i (by simpa using h)
  have e:sta (x::r) (i+1)=sta r i:=rfl
  have e1:(i+1)*2=(aLD x).length+i*2:=by simp[aLD];omega
  rw[e,aDH]
  refine⟨?_,?_⟩
  ·rw[e1,List.getElem?_append_right (by omega),Nat.add_sub_cancel_left];exact ih.1
  ·rw[e1,Nat.add_assoc,List.getElem?_append_right (by omega),Nat.add_sub_cancel_left];exact ih.2
theorem aF2{W:World}{base n c:Nat}{a:Option Addr}{L:List Sta}(h:W.ownsRow base 72 2 (.slice a n c) L.length (aDH L)):
  n=L.length∧L.length≤c∧aFU W (fun b=>base≤b∧b<W.heap.size) L a:=by
 obtain⟨h1,h2⟩:=h
 rcases h2 with⟨e,e0⟩| ⟨g,cap,cur,e,hb,hh,hc,hm,hl,ht⟩
 ·simp only[Value.slice.injEq] at e
  obtain⟨rfl,rfl,rfl⟩:=e
  have hl:L=[]:=by simpa using e0
  subst hl
  exact⟨rfl,Nat.le_refl _,fun _ _=>undef,fun hn=>by simp at hn,fun i hi=>by simp at hi⟩
 ·simp only[Value.slice.injEq] at e
  obtain⟨rfl,rfl,rfl⟩:=e
  have hg:g<W.heap.size:=(Array.getElem?_eq_some_iff.1 hh).1
  have hcell:∀j,j<L.length*2→W.cell? ⟨g,j,none⟩=(aDH L)[j]?:=fun j hj=>by
   rw[cell_of_row W g j cur _ _ hh]
   have e1:cur.toList.take (L.length*2)=aDH L:=by simpa[Nat.mul_comm] using ht
   rw[←e1,List.getElem?_take_of_lt hj]
   simp
  refine⟨rfl,hc,fun i j=>if j=0 then .int .i64 (sta L i).part else .string (sta L i).type,fun hn=>⟨g,0,rfl,⟨hb,hg⟩,fun i hi j hj=>?_⟩,fun i hi=>⟨rfl,rfl⟩⟩
  obtain⟨f0,f1⟩:=aP4 L i hi
  by_cases hj0:j=0
  ·subst hj0
   rw[Nat.zero_add,Nat.add_zero,hcell _ (by omega),f0];rfl
  ·have hj1:j=1:=by omega
   subst hj1
   rw[Nat.zero_add,hcell _ (by omega),f1];rfl
set_option maxHeartbeats 800000 in
theorem aNI(x:Sta)(w:World):
  Calls Tryz.prog 33 #[.agg #[.int .i64 x.part,.string x.type],.agg #[.int .i64 x.part,.string x.type]] w fun e w'=>e=.returned (.bool true)∧Below w.heap.size w w':=by
 go_enter Tryz.func33,Tryz.ntmps33
 go_wp2_with fail
 go_ret
 exact⟨rfl,aA5 w _ _⟩
set_option maxHeartbeats 1600000 in
theorem aFB(ss:List Sta)(w:World)(P P':Nat→Prop)(a a':Option Addr)(c c':Nat)(hK:aFU w P ss a)(hK':aFU w P' ss a')(hl:ss.length≤1048576):
  Calls Tryz.prog 11 #[.slice a ss.length c,.slice a' ss.length c'] w fun e w'=>e=.returned (.bool true)∧Below w.heap.size w w':=by
 by_cases hn0:ss.length=0
 ·have hns:ss=[]:=by simpa using hn0
  subst hns
  go_enter Tryz.func11,Tryz.ntmps11
  go_wp2_with fail
  go_loop [5] (fun i=>i=.int .i64 0) (fun _=>0)
  case atStart=>rfl
  case round=>
   subst hrel
   go_wp2_with fail
   go_ret
   exact⟨rfl,Below.refl _ _⟩
 ·have HK:=aA0 (fun k (hk:k<ss.length)=>hK.at k hk)
  have HK':=aA0 (fun k (hk:k<ss.length)=>hK'.at k hk)
  obtain⟨b,off,rfl,-⟩:=hK.at 0 (by omega)
  obtain⟨b',off',rfl,-⟩:=hK'.at 0 (by omega)
  clear hK hK'
  go_enter Tryz.func11,Tryz.ntmps11
  go_wp2_with fail
  go_loopw [5] (fun i wr=>∃k:Nat,k≤ss.length∧i=.int .i64 k∧Below w.heap.size w wr) (fun i _=>ss.length- (intOf i).toNat)
  case atStart=>exact⟨0,Nat.zero_le _,rfl,Below.refl _ _⟩
  case round=>
   obtain⟨k,hk,rfl,hbel⟩:=hrel
   by_cases hlt:k<ss.length
   ·obtain⟨b2,off2,e,-,c0,c1⟩:=HK.out k hlt
    simp only[Option.some.injEq,Addr.mk.injEq,and_true] at e
    obtain⟨rfl,rfl⟩:=e
    obtain⟨b2,off2,e,-,d0,d1⟩:=HK'.out k hlt
    simp only[Option.some.injEq,Addr.mk.injEq,and_true] at e
    obtain⟨rfl,rfl⟩:=e
    replace c0:=(hbel.cell (aBA c0)).trans c0
    replace c1:=(hbel.cell (aBA c1)).trans c1
    replace d0:=(hbel.cell (aBA d0)).trans d0
    replace d1:=(hbel.cell (aBA d1)).trans d1
    generalize sta ss k=x at*
    have hE:=aNI x wr.drew
    go_wp2_with fail
    go_region_with (go_at_call 33;refine hE.mono ?_;rintro e w1 ⟨rfl,hby⟩)
    all_goals
     go_wp2_with fail
     go_roundw
     case rel=>exact⟨k+1,by omega,by go_num,hbel.drew.trans (hby.mono (by have:=hbel.size;simpa using this))⟩
     case measure=>simp[intOf];omega
   ·go_wp2_with fail
    go_ret
    exact⟨rfl,hbel⟩
theorem aGR{w w':World}{b:Nat}(h:Below w.heap.size w w')(hb:b<w.heap.size)(i:Nat):w'.frozen? ⟨b,i,none⟩=w.frozen? ⟨b,i,none⟩:=by
 have:=h.block b hb
 simp[World.frozen?,this]
def WSs(w:World)(b off n:Nat):Prop:=∀i,i<n→(∃x,w.cell? ⟨b,off+i*2,none⟩=some (.int .i64 x))∧(∃s,w.cell? ⟨b,off+i*2+1,none⟩=some (.string s))∧∀j,w.frozen? ⟨b,j,none⟩=false
def aP5(w:World)(b off n k:Nat):Prop:=∀i,i<n→w.cell? ⟨b,off+i*2,none⟩=some (.int .i64 ((k+i*2:Nat):Int))∧w.cell? ⟨b,off+i*2+1,none⟩=some (.string (aE9 (k+i*2+1)))
structure But(b:Nat)(w w':World):Prop where
 os:w'.os=w.os
 tape:w'.tape=w.tape
 output:w'.output=w.output
 size:w.heap.size≤w'.heap.size
 block:∀j,j<w.heap.size→j≠b→w'.heap[j]?=w.heap[j]?
theorem But.refl(b:Nat)(w:World):But b w w:=⟨rfl,rfl,rfl,Nat.le_refl _,fun _ _ _=>rfl⟩
theorem But.below{b:Nat}{w w1 w2:World}(h:But b w w1)(k:Below w1.heap.size w1 w2):But b w w2:=⟨k.os.trans h.os,k.tape.trans h.tape,k.output.trans h.output,Nat.le_trans h.size k.size,fun j hj hn=>(k.block j (Nat.lt_of_lt_of_le hj h.size)).trans (h.block j hj hn)⟩
theorem But.set{b:Nat}{w w1:World}(h:But b w w1)(i:Nat)(v:Value):But b w (w1.setCell ⟨b,i,none⟩ v):=⟨h.os,h.tape,h.output,by rw[aBO];exact h.size,fun j hj hn=>(Below.heap_setCell _ _ _ _ hn).trans (h.block j hj hn)⟩
set_option maxRecDepth 20000 in
set_option maxHeartbeats 1600000 in
theorem aK0(n c k b off:Nat)(w:World)(hw:WSs w b off n)(hn:n≤1048576)(hk:k≤1000000000000):
  Calls Tryz.prog 14 #[.slice (some ⟨b,off,none⟩) n c,.int .i64 k] w fun e w'=>e=.returned (.int .i64 ((k+n*2:Nat):Int))∧But b w w'∧aP5 w' b off n k:=by
 go_enter Tryz.func14,Tryz.ntmps14
 go_wp2_with fail
 go_loopw [1,5] (fun kk i wr=>∃j:Nat,j≤n∧kk=.int .i64 ((k+j*2:Nat):Int)∧i=.int .i64 j∧Hid (But b w wr∧WSs wr b off n∧aP5 wr b off j k)) (fun _ i _=>n- (intOf i).toNat)
 case atStart=>exact⟨0,Nat.zero_le _,rfl,rfl,aA0 ⟨But.refl _ _,hw,fun i hi=>by omega⟩⟩
 case round=>
  obtain⟨j,hj,rfl,rfl,HM⟩:=hrel
  obtain⟨w0,rfl⟩:∃x,x=wr:=⟨wr,rfl⟩
  by_cases hlt:j<n
  ·obtain⟨⟨x0,c0⟩,⟨s1,c1⟩,z⟩:=HM.out.2.1 j hlt
   have z0:=z (off+j*2)
   have hji:(j:Int)<(n:Int):=by omega
   obtain⟨K,hKe⟩:∃K:Int,K=((k+j*2:Nat):Int):=⟨_,rfl⟩
   have hK0:0≤K:=by omega
   have hK1:K+2≤100000000000000:=by omega
   have HKE:=aA0 hKe
   rw[←hKe]
   have HMT:Hid (aE9 (K+1).toNat=aE9 (k+j*2+1)):=aA0 (by rw[hKe];congr 1)
   clear hKe z
   have bl0:=aBA c0
   have bl0:b<w0.heap.size:=bl0
   have d0:(w0.setCell ⟨b,off+j*2,none⟩ (.int .i64 K)).cell? ⟨b,off+j*2,none⟩=some (.int .i64 K):=World.cell?_setCell_same _ _ _ c0
   have d1:(w0.setCell ⟨b,off+j*2,none⟩ (.int .i64 K)).cell? ⟨b,off+j*2+1,none⟩=some (.string s1):=(World.cell?_setCell_other _ _ _ _ (by intro e;simp only[Addr.mk.injEq] at e;omega)).trans c1
   have zs:(w0.setCell ⟨b,off+j*2,none⟩ (.int .i64 K)).heap.size=w0.heap.size:=aBO _ _ _
   have HB1:Hid (But b w (w0.setCell ⟨b,off+j*2,none⟩ (.int .i64 K))):=aA0 (HM.out.1.set _ _)
   have HO1:Hid (∀i,i≠off+j*2→(w0.setCell ⟨b,off+j*2,none⟩ (.int .i64 K)).cell? ⟨b,i,none⟩=w0.cell? ⟨b,i,none⟩):=aA0 fun i hi=>World.cell?_setCell_other _ _ _ _ (by intro e;simp only[Addr.mk.injEq] at e;omega)
   have HF1:Hid (∀i,(w0.setCell ⟨b,off+j*2,none⟩ (.int .i64 K)).frozen? ⟨b,i,none⟩=false):=aA0 fun i=>by rw[World.frozen?_setCell];exact(HM.out.2.1 j hlt).2.2 i
   go_upto_region 6 with fail
   clear c0 c1 z0
   generalize w0.setCell ⟨b,off+j*2,none⟩ (.int .i64 K)=w1 at*
   have hM:=aCG (K+1) w1 (by omega) (by omega)
   go_wp2_with (
    go_at_call 35
    refine hM.mono ?_
    rintro e w2 ⟨rfl,hb2⟩
    have e1:w2.cell? ⟨b,off+j*2+1,none⟩=some (.string s1):=(hb2.cell (p:=⟨b,off+j*2+1,none⟩) (by show b<_;omega)).trans d1
    have hf1:w2.frozen? ⟨b,off+j*2+1,none⟩=false:=(aGR hb2 (by omega) _).trans (HF1.out _))
   go_roundw
   case measure=>simp[intOf];omega
   case rel=>
    rw[HMT.out]
    refine⟨j+1,by omega,by rw[HKE.out];go_num,by go_num,aA0 ⟨(HB1.out.below hb2).set _ _,?_,?_⟩⟩
    ·intro i hi
     obtain⟨⟨y0,q0⟩,⟨y1,q1⟩,-⟩:=HM.out.2.1 i hi
     refine⟨?_,?_,fun i'=>?_⟩
     ·rw[World.cell?_setCell_other _ _ _ _ (by intro e;simp only[Addr.mk.injEq] at e;omega),hb2.cell (p:=⟨b,off+i*2,none⟩) (by show b<_;omega)]
      by_cases e:i=j
      ·subst e;exact⟨_,d0⟩
      ·rw[HO1.out _ (by omega)];exact⟨_,q0⟩
     ·by_cases e:i=j
      ·subst e;exact⟨_,World.cell?_setCell_same _ _ _ e1⟩
      ·rw[World.cell?_setCell_other _ _ _ _ (by intro e;simp only[Addr.mk.injEq] at e;omega),hb2.cell (p:=⟨b,off+i*2+1,none⟩) (by show b<_;omega),HO1.out _ (by omega)];exact⟨_,q1⟩
     ·rw[World.frozen?_setCell]
      exact(aGR hb2 (by omega) _).trans (HF1.out _)
    ·intro i hi
     by_cases e:i=j
     ·subst e
      refine⟨?_,World.cell?_setCell_same _ _ _ e1⟩
      rw[World.cell?_setCell_other _ _ _ _ (by intro e;simp only[Addr.mk.injEq] at e;omega),hb2.cell (p:=⟨b,off+i*2,none⟩) (by show b<_;omega),d0,HKE.out]
     ·obtain⟨q0,q1⟩:=HM.out.2.2 i (by omega)
      refine⟨?_,?_⟩
      ·rw[World.cell?_setCell_other _ _ _ _ (by intro e;simp only[Addr.mk.injEq] at e;omega),hb2.cell (p:=⟨b,off+i*2,none⟩) (by show b<_;omega),HO1.out _ (by omega)];exact q0
      ·rw[World.cell?_setCell_other _ _ _ _ (by intro e;simp only[Addr.mk.injEq] at e;omega),hb2.cell (p:=⟨b,off+i*2+1,none⟩) (by show b<_;omega),HO1.out _ (by omega)];exact q1
  ·go_wp2_with fail
   go_ret
   have e:j=n:=by omega
   subst e
   exact⟨rfl,HM.out.1,HM.out.2.2⟩
set_option maxRecDepth 20000 in
set_option maxHeartbeats 1600000 in
theorem aK3(n c k b off:Nat)(w:World)(hw:aP5 w b off n k)(hn:n≤1048576)(hk:k≤1000000000000):
  Calls Tryz.prog 15 #[.slice (some ⟨b,off,none⟩) n c,.int .i64 k] w fun e w'=>e=.returned (.int .i64 ((k+n*2:Nat):Int))∧Below w.heap.size w w':=by
 have HW:=aA0 hw
 clear hw
 go_enter Tryz.func15,Tryz.ntmps15
 go_wp2_with fail
 go_loopw [1,5] (fun kk i wr=>∃j:Nat,j≤n∧kk=.int .i64 ((k+j*2:Nat):Int)∧i=.int .i64 j∧Below w.heap.size w wr) (fun _ i _=>n- (intOf i).toNat)
 case atStart=>exact⟨0,Nat.zero_le _,rfl,rfl,Below.refl _ _⟩
 case round=>
  obtain⟨j,hj,rfl,rfl,hb⟩:=hrel
  obtain⟨w0,rfl⟩:∃x,x=wr:=⟨wr,rfl⟩
  by_cases hlt:j<n
  ·obtain⟨c0,c1⟩:=HW.out j hlt
   have hbl:b<w.heap.size:=aBA c0
   replace c0:=(hb.cell (aBA c0)).trans c0
   have hx1:=c1
   replace c1:=(hb.cell (aBA c1)).trans c1
   have hM:=aF4 (k+j*2+1) w0.drew (by omega)
   have hji:(j:Int)<(n:Int):=by omega
   have hz:=hb.size
   have hK:(((k+j*2+1:Nat)):Int)=((k+j*2:Nat):Int)+1:=by omega
   rw[hK] at hM
   obtain⟨K,hKe⟩:∃K:Int,K=((k+j*2:Nat):Int):=⟨_,rfl⟩
   have hK0:0≤K:=by omega
   have hK1:K+2≤100000000000000:=by omega
   have HKE:=aA0 hKe
   rw[←hKe] at hM c0 ⊢
   clear hKe hK
   generalize aE9 (k+j*2+1)=mt at hx1 c1 hM
   go_wp2_with fail
   go_region_held3 (fun w'=>w'.cell? ⟨b,off+j*2+1,none⟩=some (.string mt)) (go_keep)
    (first
     |(
      go_at_call 35
      refine hM.mono ?_
      rintro e w1 ⟨rfl,hb1⟩
      have hb1':=aAF hb1
      have hw1:=hb.trans (hb1'.mono hz)
      have c1:=(hw1.cell (p:=⟨b,off+j*2+1,none⟩) hbl).trans hx1))
   go_wp2_with fail
   go_roundw
   case rel=>exact⟨j+1,by omega,by rw[HKE.out];go_num,by go_num,hw1⟩
   case measure=>simp[intOf];omega
  ·go_wp2_with fail
   go_ret
   have e:j=n:=by omega
   exact⟨by rw[e];rfl,hb⟩
theorem aB3{w w':World}{base:Nat}{e:TypeId}{size:Nat}{v:Value}{n:Nat}{xs:List Value}(h:w.ownsRow base e size v n xs)(hk:∀g,v.ownBlock=some g→w'.heap[g]?=w.heap[g]?):w'.ownsRow base e size v n xs:=by
 obtain⟨h1,h2⟩:=h
 refine⟨h1,?_⟩
 rcases h2 with h2| ⟨g,cap,cur,rfl,hb,hh,r⟩
 ·exact .inl h2
 ·exact .inr ⟨g,cap,cur,rfl,hb,(hk g rfl).trans hh,r⟩
theorem aKK{w:World}{base:Nat}{e:TypeId}{size:Nat}{v:Value}{n:Nat}{xs:List Value}(h:w.ownsRow base e size v n xs){g:Nat}(hg:v.ownBlock=some g):∃cur,w.heap[g]?=some (.cells cur e (0,0)):=by
 rcases h.2 with⟨rfl,-⟩| ⟨g',cap,cur,rfl,hb,hh,r⟩
 ·cases hg
 ·cases hg;exact⟨_,hh⟩
structure Grps(w:World)(F:Nat→Prop)(B:Nat)(eT:TypeId)(en:Nat)(kv:Value)(G:Value→Option Value)(GL:Value→List Value):Prop where
 nil0:∀k,G k=none→GL k=[]
 row:∀k v,G k=some v→∃L,0<L∧w.ownsRow B eT en v L (GL k)
 fp:∀k v g,G k=some v→v.ownBlock=some g→F g∧kv.ownBlock≠some g
 apart:∀k k' v v' g,G k=some v→G k'=some v'→k≠k'→v.ownBlock=some g→v'.ownBlock≠some g
structure Lst(w:World)(F:Nat→Prop)(I:Value→Prop)(B:Nat)(kT:TypeId)(kn:Nat)(eT:TypeId)(en:Nat)(kv:Value)(m KL:Nat)(KS:List Value)(GL:Value→List Value):Prop where
 keys:w.ownsRow B kT kn kv KL KS
 keyF:∀g,kv.ownBlock=some g→F g
 map:∃G,aDC w I m G∧Grps w F B eT en kv G GL
 mapF:F m
 bd:∀g,F g→B≤g∧g<w.heap.size
variable {w:World} {F:Nat→Prop} {I:Value→Prop} {B:Nat} {kT:TypeId} {kn:Nat} {eT:TypeId} {en:Nat} {kv:Value} {m KL:Nat} {KS:List Value} {GL:Value→List Value}
theorem Lst.mlt(h:Lst w F I B kT kn eT en kv m KL KS GL):B≤m∧m<w.heap.size:=h.bd m h.mapF
theorem aCF{w:World}{m:Nat}{G:Value→Option Value}{I:Value→Prop}(h:aDC w I m G){base:Nat}{e:TypeId}{size:Nat}{v:Value}{n:Nat}{xs:List Value}(h2:w.ownsRow base e size v n xs):v.ownBlock≠some m:=fun e=>by
 obtain⟨es,clock,hb,-⟩:=h
 obtain⟨cur,hc⟩:=aKK h2 e
 rw[hb] at hc
 cases hc
theorem Lst.keep{w':World}(h:Lst w F I B kT kn eT en kv m KL KS GL)(hk:∀b,F b→w'.heap[b]?=w.heap[b]?)(hs:w.heap.size≤w'.heap.size):Lst w' F I B kT kn eT en kv m KL KS GL:=by
 obtain⟨G,hO,hG⟩:=h.map
 exact⟨aB3 h.keys fun g hg=>hk g (h.keyF g hg),h.keyF,⟨G,hO.of_block (hk m h.mapF),hG.nil0,fun k v hv=>by
  obtain⟨L,h1,h2⟩:=hG.row k v hv
  exact⟨L,h1,aB3 h2 fun g hg=>hk g (hG.fp k v g hv hg).1⟩,hG.fp,hG.apart⟩,h.mapF,fun g hg=>by have:=h.bd g hg;omega⟩
theorem Lst.made(w:World)(hm:w.heap[m]?=some (.map #[] 0))(hB:B≤m):Lst w (·=m) I B kT kn eT en (.slice none 0 0) m 0 [] (fun _=>[]):=
 ⟨World.ownsRow_nil _ _ _ _,fun g h=>(by cases h),⟨fun _=>none,⟨#[],0,hm,by simp,by simp,by simp⟩,fun _ _=>rfl,fun k v h=>(by cases h),fun k v g h=>(by cases h),fun k k' v v' g h=>(by cases h)⟩,rfl,fun g hg=>(by
  subst hg
  exact⟨hB,(Array.getElem?_eq_some_iff.1 hm).1⟩)⟩
theorem Lst.key{wF:World}(h:Lst w F I B kT kn eT en kv m KL KS GL){kv':Value}{kc:List Value}{KL':Nat}(ho:wF.ownsRow B kT kn kv' KL' (KS++kc))(hg:w.grownBy wF kv.ownBlock)(hn:∀g,kv'.ownBlock=some g→kv.ownBlock=some g∨w.heap.size≤g):
  Lst wF (fun b=>F b∨kv'.ownBlock=some b) I B kT kn eT en kv' m KL' (KS++kc) GL:=by
 obtain⟨G,hO,hG⟩:=h.map
 have hz:=hg.size
 refine⟨ho,fun g hg=>.inr hg,⟨G,hO.of_block (hg.block m h.mlt.2 fun e=>aCF hO h.keys e.symm),hG.nil0,fun k v hv=>?_,fun k v g hv hg'=>⟨.inl (hG.fp k v g hv hg').1,fun e=>?_⟩,hG.apart⟩,.inl h.mapF,fun g hg'=>?_⟩
 ·obtain⟨L,h1,h2⟩:=hG.row k v hv
  exact⟨L,h1,aB3 h2 fun g hg'=>hg.block g (h.bd g (hG.fp k v g hv hg').1).2 fun e=>(hG.fp k v g hv hg').2 e.symm⟩
 ·have h1:=hG.fp k v g hv hg'
  rcases hn g e with h2| h2
  ·exact h1.2 h2
  ·have:=(h.bd g h1.1).2;omega
 ·rcases hg' with hg'| hg'
  ·have:=h.bd g hg';omega
  ·exact ho.lt g hg'
theorem Lst.put{wF w2:World}(h:Lst w F I B kT kn eT en kv m KL KS GL){G:Value→Option Value}(hO:aDC w I m G)(hG:Grps w F B eT en kv G GL){key:Value}{xs:List Value}{L:Nat}{v':Value}(ho:wF.ownsRow B eT en v' L (GL key++xs))(hL:0<L)
  (hg:w.grownBy wF ((G key).getD (.slice none 0 0)).ownBlock) (hn:∀g,v'.ownBlock=some g→((G key).getD (.slice none 0 0)).ownBlock=some g∨w.heap.size≤g)
  {G2:Value→Option Value} (hO2:aDC w2 I m G2) (h1:G2 key=some v') (h2:∀y,y≠key→G2 y=G y) (hg2:wF.grownBy w2 (some m)) {GL':Value→List Value} (e1:GL' key=GL key++xs) (e2:∀y,y≠key→GL' y=GL y):
  Lst w2 (fun b=>F b∨v'.ownBlock=some b) I B kT kn eT en kv m KL KS GL':=by
 have hz:=hg.size
 have hz2:=hg2.size
 have hold:∀g,((G key).getD (.slice none 0 0)).ownBlock=some g→F g∧kv.ownBlock≠some g∧g≠m∧∀k v,k≠key→G k=some v→v.ownBlock≠some g:=fun g hg'=>by
  cases hk:G key with
  |none=>rw[hk] at hg';cases hg'
  |some v=>
   rw[hk] at hg'
   simp only[Option.getD_some] at hg'
   obtain⟨L,-,hr⟩:=hG.row key v hk
   exact⟨(hG.fp key v g hk hg').1,(hG.fp key v g hk hg').2,fun e=>aCF hO hr (e▸hg'),fun k v2 hne hk2=>hG.apart key k v v2 g hk hk2 (fun e=>hne e.symm) hg'⟩
 have hblk:∀b,b<w.heap.size→((G key).getD (.slice none 0 0)).ownBlock≠some b→b≠m→w2.heap[b]?=w.heap[b]?:=fun b hb hn hm=>(hg2.block b (by omega) fun e=>hm (Option.some.inj e)).trans (hg.block b hb fun e=>hn e.symm)
 have hnm:∀g,v'.ownBlock=some g→g≠m:=fun g hg' e=>by
  rcases hn g hg' with h3| h3
  ·exact(hold g h3).2.2.1 e
  ·have:=h.mlt.2;omega
 refine⟨aB3 h.keys fun g hg'=>hblk g (h.bd g (h.keyF g hg')).2 (fun e=>(hold g e).2.1 hg') fun e=>aCF hO h.keys (e▸hg'),fun g hg'=>.inl (h.keyF g hg'),⟨G2,hO2,fun k hk=>?_,fun k v hv=>?_,fun k v g hv hg'=>?_,fun k k' v1 v2 g hv1 hv2 hne hg'=>?_⟩,.inl h.mapF,fun g hg'=>?_⟩
 ·have hne:k≠key:=fun e=>by rw[e,h1] at hk;cases hk
  rw[e2 k hne]
  exact hG.nil0 k (by rw[←h2 k hne];exact hk)
 ·by_cases hne:k=key
  ·subst hne
   rw[h1] at hv
   cases hv
   rw[e1]
   exact⟨L,hL,aB3 ho fun g hg'=>hg2.block g (ho.lt g hg').2 fun e=>hnm g hg' (Option.some.inj e)⟩
  ·rw[h2 k hne] at hv
   obtain⟨L',h3,h4⟩:=hG.row k v hv
   rw[e2 k hne]
   exact⟨L',h3,aB3 h4 fun g hg'=>hblk g (h.bd g (hG.fp k v g hv hg').1).2 (fun e=>(hold g e).2.2.2 k v hne hv hg') fun e=>aCF hO h4 (e▸hg')⟩
 ·by_cases hne:k=key
  ·subst hne
   rw[h1] at hv
   cases hv
   refine⟨.inr hg',fun e=>?_⟩
   rcases hn g hg' with h3| h3
   ·exact(hold g h3).2.1 e
   ·have:=(h.bd g (h.keyF g e)).2;omega
  ·rw[h2 k hne] at hv
   exact⟨.inl (hG.fp k v g hv hg').1,(hG.fp k v g hv hg').2⟩
 ·by_cases hk1:k=key
  ·subst hk1
   rw[h1] at hv1
   cases hv1
   rw[h2 k' (fun e=>hne e.symm)] at hv2
   intro e
   rcases hn g hg' with h3| h3
   ·exact(hold g h3).2.2.2 k' v2 (fun e=>hne e.symm) hv2 e
   ·have:=(h.bd g (hG.fp k' v2 g hv2 e).1).2;omega
  ·rw[h2 k hk1] at hv1
   by_cases hk2:k'=key
   ·subst hk2
    rw[h1] at hv2
    cases hv2
    intro e
    rcases hn g e with h3| h3
    ·exact(hold g h3).2.2.2 k v1 hk1 hv1 hg'
    ·have:=(h.bd g (hG.fp k v1 g hv1 hg').1).2;omega
   ·rw[h2 k' hk2] at hv2
    exact hG.apart k k' v1 v2 g hv1 hv2 hne hg'
 ·rcases hg' with hg'| hg'
  ·have:=h.bd g hg';omega
  ·have:=ho.lt g hg';omega
end Go.Proofs.YtcebpkeiaiiphaaGreatDoor
namespace Go.Proofs.YtcebpkeiaiiphaaGreatDoor
open Go.RowKit
theorem FRep.vals{w:World}{P:Nat→Prop}{f:F}{nm of:ByteArray}{l m fr hi sh:Bool}{na:Option Addr}{nl nc:Nat}(h:FRep w P f (.agg #[.string nm,.string of,.bool l,.bool m,.bool fr,.bool hi,.bool sh,.slice na nl nc])):
  nm=f.name∧of=f.of∧l=f.list∧m=f.must∧fr=f.far∧hi=f.hidden∧sh=f.shared∧nl=f.needs.length∧Strs w P f.needs na∧f.needs.length≤nc∧f.name.size≤maxLen∧f.of.size≤maxLen:=by
 obtain⟨e0,e1,e2,e3,e4,e5,e6,na',nc',e7,h1,h2,h3,h4⟩:=h.parts
 simp only[Value.string.injEq,Value.bool.injEq,Value.slice.injEq] at e0 e1 e2 e3 e4 e5 e6 e7
 obtain⟨rfl,e8,rfl⟩:=e7
 exact⟨e0,e1,e2,e3,e4,e5,e6,e8,h1,h2,h3,h4⟩
set_option maxHeartbeats 800000 in
theorem aM1(nm of:ByteArray)(l m fr hi sh:Bool)(na:Option Addr)(nl nc:Nat)(w:World):
  Calls Tryz.prog 160 #[.agg #[.int .u8 (aCC l m fr hi sh),.string nm,.string of,.bool l,.bool m,.bool fr,.bool hi,.bool sh,.slice na nl nc]] w fun e w'=>e=.returned (.bool (isT of [105,110,116]&&(nl:Int)==0&&m&&!(l||fr||hi)))∧Below w.heap.size w w':=by
 have h1:=fun w=>aD4 (aCC l m fr hi sh) 2 w
 have h2:=fun w=>aHG (aCC l m fr hi sh) 13 w
 rw[aMQ] at h1
 rw[aTN] at h2
 generalize aCC l m fr hi sh=x at*
 cases e1:(of.toList==[105,110,116])
 ·go_enter Tryz.func160,Tryz.ntmps160
  go_wp2_with fail
  go_ret
  exact⟨aA4 (by simp[isT,e1]),aA2 _ _⟩
 cases e2:((nl:Int)==0)
 ·go_enter Tryz.func160,Tryz.ntmps160
  go_wp2_with fail
  go_ret
  exact⟨aA4 (by simp),aA2 _ _⟩
 cases m
 ·go_enter Tryz.func160,Tryz.ntmps160
  go_wp2_with (go_at_call 161;refine(h1 _).mono ?_;rintro e w' ⟨rfl,rfl⟩)
  go_ret
  exact⟨aA4 (by simp),aA2 _ _⟩
 ·go_enter Tryz.func160,Tryz.ntmps160
  go_wp2_with (first| (go_at_call 161;refine(h1 _).mono ?_;rintro e w' ⟨rfl,rfl⟩)| (go_at_call 174;refine(h2 _).mono ?_;rintro e w' ⟨rfl,rfl⟩))
  go_ret
  exact⟨aA4 (by simp[isT,e1]),aA2 _ _⟩
set_option maxHeartbeats 800000 in
theorem aFE(nm of:ByteArray)(l m fr hi sh:Bool)(na:Option Addr)(nl nc:Nat)(w:World):
  Calls Tryz.prog 175 #[.agg #[.int .u8 (aCC l m fr hi sh),.string nm,.string of,.bool l,.bool m,.bool fr,.bool hi,.bool sh,.slice na nl nc]] w fun e w'=>e=.returned (.bool (isT of [105,110,116]&&(nl:Int)==0&&!l))∧Below w.heap.size w w':=by
 have h2:=fun w=>aHG (aCC l m fr hi sh) 1 w
 rw[aQP] at h2
 generalize aCC l m fr hi sh=x at*
 cases e1:(of.toList==[105,110,116])
 ·go_enter Tryz.func175,Tryz.ntmps175
  go_wp2_with fail
  go_ret
  exact⟨aA4 (by simp[isT,e1]),aA2 _ _⟩
 cases e2:((nl:Int)==0)
 ·go_enter Tryz.func175,Tryz.ntmps175
  go_wp2_with fail
  go_ret
  exact⟨aA4 (by simp),aA2 _ _⟩
 ·go_enter Tryz.func175,Tryz.ntmps175
  go_wp2_with (go_at_call 174;refine(h2 _).mono ?_;rintro e w' ⟨rfl,rfl⟩)
  go_ret
  exact⟨aA4 (by simp[isT,e1]),aA2 _ _⟩
set_option maxHeartbeats 800000 in
theorem aNA(nm of:ByteArray)(l m fr hi sh:Bool)(na:Option Addr)(nl nc:Nat)(tn tk:ByteArray)(fa:Option Addr)(fl fc:Nat)(w:World):
  Calls Tryz.prog 162 #[.agg #[.int .u8 (aCC l m fr hi sh),.string nm,.string of,.bool l,.bool m,.bool fr,.bool hi,.bool sh,.slice na nl nc],.agg #[.string tn,.string tk,.slice fa fl fc]] w fun e w'=>e=.returned (.bool (isT of [105,110,116]&&!(l||fr||m)&&!tk.toList.isEmpty&&!(nm.toList==tk.toList)))∧Below w.heap.size w w':=by
 have h2:=fun w=>aHG (aCC l m fr hi sh) 7 w
 rw[aRM] at h2
 generalize aCC l m fr hi sh=x at*
 cases e1:(of.toList==[105,110,116])
 ·go_enter Tryz.func162,Tryz.ntmps162
  go_wp2_with fail
  go_ret
  exact⟨aA4 (by simp[isT,e1]),aA5 _ _ _⟩
 cases e2:(l||fr||m)
 ·rw[e2] at h2
  cases e3:tk.toList.isEmpty
  ·cases e4:(nm.toList==tk.toList)
   ·have g4:(nm.toList !=tk.toList)=true:=by simp only[bne,e4];rfl
    go_enter Tryz.func162,Tryz.ntmps162
    go_wp2_with (go_at_call 174;refine(h2 _).mono ?_;rintro e w' ⟨rfl,rfl⟩)
    go_ret
    exact⟨aA4 (by simp[isT,e1]),aA5 _ _ _⟩
   ·have g4:(nm.toList !=tk.toList)=false:=by simp only[bne,e4];rfl
    go_enter Tryz.func162,Tryz.ntmps162
    go_wp2_with (go_at_call 174;refine(h2 _).mono ?_;rintro e w' ⟨rfl,rfl⟩)
    go_ret
    exact⟨aA4 (by simp[isT,e1]),aA5 _ _ _⟩
  ·go_enter Tryz.func162,Tryz.ntmps162
   go_wp2_with (go_at_call 174;refine(h2 _).mono ?_;rintro e w' ⟨rfl,rfl⟩)
   go_ret
   exact⟨aA4 (by simp),aA5 _ _ _⟩
 ·rw[e2] at h2
  go_enter Tryz.func162,Tryz.ntmps162
  go_wp2_with (go_at_call 174;refine(h2 _).mono ?_;rintro e w' ⟨rfl,rfl⟩)
  go_ret
  exact⟨aA4 (by simp),aA5 _ _ _⟩
set_option maxHeartbeats 800000 in
theorem aJT(t:T)(w:World)(B:Nat)(v:Value)(hR:TRep w (·<B) t v)(hB:B≤w.heap.size):
  Calls Tryz.prog 134 #[v] w fun e w'=>e=.returned (.bool (keyB t))∧Below w.heap.size w w':=by
 have hR':=hR
 obtain⟨name,key,fields⟩:=t
 obtain⟨fa,fc,rfl,hK,hnc,hn,ho⟩:=hR
 simp only at hK hnc hn ho
 cases hke:key.toList.isEmpty
 case true=>
  go_enter Tryz.func134,Tryz.ntmps134
  go_wp2_with fail
  go_ret
  exact⟨aA4 (by simp[keyB,hke]),aA2 _ _⟩
 have hff:=fun o=>aDG ⟨name,key,fields⟩ (w.alloc o) B _ key (hR'.under ((aA2 w o).mono hB)) (by simp;omega)
 have hkb:Hid (keyB ⟨name,key,fields⟩=(decide (0≤aAC ⟨name,key,fields⟩ key)&&aF1 (aB8 ⟨name,key,fields⟩ key))):=by
  show _=_
  by_cases h:0≤aAC ⟨name,key,fields⟩ key<;>simp[keyB,hke,aB8,h]
 cases hix:decide (0≤aAC ⟨name,key,fields⟩ key)
 ·rw[hix] at hff
  go_enter Tryz.func134,Tryz.ntmps134
  go_wp2_with (go_at_call 98;refine(hff _).mono ?_;rintro e w1 ⟨nm,of,l,m,fr,hi,sh,na,nl,nc,rfl,hb1,hf1⟩)
  go_ret
  exact⟨aA4 (by rw[hkb.out,hix];rfl),((aA2 w _).trans (hb1.mono (by simp))).alloc (by have:=hb1.size;simp at this;omega) _⟩
 ·rw[hix] at hff
  go_enter Tryz.func134,Tryz.ntmps134
  go_wp2_with (first
   |(
    go_at_call 98
    refine(hff _).mono ?_
    rintro e w1 ⟨nm,of,l,m,fr,hi,sh,na,nl,nc,rfl,hb1,hf1⟩)
   |(
    go_at_call 139
    refine(aBK _ _ _ _ _ _ _ _ _ _ _).mono ?_
    rintro e w2 ⟨rfl,hb2⟩)
   |(
    go_at_call 160
    refine(aM1 _ _ _ _ _ _ _ _ _ _ _).mono ?_
    rintro e w3 ⟨rfl,hb3⟩))
  go_ret
  obtain⟨-,rfl,rfl,rfl,rfl,rfl,rfl,rfl,-⟩:=hf1.vals
  have z1:=hb1.size
  simp at z1
  have z2:=hb2.size
  simp at z2
  refine⟨aA4 ?_,((((aA2 w _).trans (hb1.mono (by simp))).alloc (by omega) _).trans (hb2.mono (by simp;omega))).trans (hb3.mono (by omega))⟩
  rw[hkb.out,hix]
  simp only[aF1,Bool.true_and]
  generalize aB8 ⟨name,key,fields⟩ key=f
  cases f.list<;>cases f.must<;>cases f.far<;>cases f.hidden<;>simp
end Go.Proofs.YtcebpkeiaiiphaaGreatDoor
