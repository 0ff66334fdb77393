import Derived.Test.YtcebpkeiaiiphaaGreatDoorRB2
set_option linter.unusedSimpArgs false
set_option linter.unusedVariables false
namespace Go.Proofs.YtcebpkeiaiiphaaGreatDoor
open Go.RowKit
set_option maxHeartbeats 800000 in
theorem aN9(f:F)(w:World)(B:Nat)(v v':Value)(hR:FRep w (·<B) f v)(hR':FRep w (·<B) f v')(hB:B≤w.heap.size):
  Calls Tryz.prog 150 #[v,v'] w fun e w'=>e=.returned (.bool true)∧Below w.heap.size w w':=by
 obtain⟨na,nc,rfl,hs,-⟩:=hR
 obtain⟨na',nc',rfl,hs',-⟩:=hR'
 obtain⟨name,of,l,m,fa,hi,sh,needs⟩:=f
 simp only at hs hs'
 go_enter Tryz.func150,Tryz.ntmps150
 go_wp2_with (
   go_at_call 18
   refine(aH2 needs na na' nc nc' _ (·<B) (·<B) (hs.under ((aA5 w _ _).mono hB)) (hs'.under ((aA5 w _ _).mono hB))).mono ?_
   rintro e w' ⟨rfl,m,rfl⟩)
 go_ret
 exact⟨rfl,aAP (aA5 w _ _) _⟩
set_option maxHeartbeats 800000 in
theorem aMW(ks:List F)(w:World)(B:Nat)(a a':Option Addr)(c c':Nat)(hK:aBE w (·<B) ks a)(hK':aBE w (·<B) ks a')(hB:B≤w.heap.size):
  Calls Tryz.prog 121 #[.slice a ks.length c,.slice a' ks.length c'] w fun e w'=>e=.returned (.bool true)∧Below w.heap.size w w':=by
 have h3:=hK.1
 obtain⟨-,C,hA,hr⟩:=hK
 obtain⟨-,C',hA',hr'⟩:=hK'
 by_cases hn0:ks.length=0
 ·have hns:ks=[]:=by simpa using hn0
  subst hns
  go_enter Tryz.func121,Tryz.ntmps121
  go_wp2_with fail
  go_loop [5] (fun i=>i=.int .i64 0) (fun _=>0)
  case atStart=>rfl
  case round=>
   subst hrel
   go_wp2_with fail
   go_ret
   exact⟨rfl,Below.refl _ _⟩
 ·obtain⟨b,off,rfl,hbB,hc⟩:=hA (by omega)
  obtain⟨b',off',rfl,hbB',hd⟩:=hA' (by omega)
  clear hA hA'
  go_enter Tryz.func121,Tryz.ntmps121
  go_wp2_with fail
  go_loopw [5] (fun i wr=>∃k:Nat,k≤ks.length∧i=.int .i64 k∧Below w.heap.size w wr) (fun i _=>ks.length- (intOf i).toNat)
  case atStart=>exact⟨0,Nat.zero_le _,rfl,Below.refl _ _⟩
  case round=>
   obtain⟨k,hk,rfl,hbel⟩:=hrel
   by_cases hlt:k<ks.length
   ·have hck:∀j,j<8→wr.cell? ⟨b,off+k*8+j,none⟩=some (C k j):=fun j hj=>(hbel.cell (p:=⟨b,off+k*8+j,none⟩) (by show b<_;omega)).trans (hc k hlt j hj)
    have hc0:wr.cell? ⟨b,off+k*8,none⟩=some (C k 0):=hck 0 (by omega)
    have hc1:wr.cell? ⟨b,off+k*8+1,none⟩=some (C k 1):=hck 1 (by omega)
    have hc2:wr.cell? ⟨b,off+k*8+2,none⟩=some (C k 2):=hck 2 (by omega)
    have hc3:wr.cell? ⟨b,off+k*8+3,none⟩=some (C k 3):=hck 3 (by omega)
    have hc4:wr.cell? ⟨b,off+k*8+4,none⟩=some (C k 4):=hck 4 (by omega)
    have hc5:wr.cell? ⟨b,off+k*8+5,none⟩=some (C k 5):=hck 5 (by omega)
    have hc6:wr.cell? ⟨b,off+k*8+6,none⟩=some (C k 6):=hck 6 (by omega)
    have hc7:wr.cell? ⟨b,off+k*8+7,none⟩=some (C k 7):=hck 7 (by omega)
    clear hck hc
    have hdk:∀j,j<8→wr.cell? ⟨b',off'+k*8+j,none⟩=some (C' k j):=fun j hj=>(hbel.cell (p:=⟨b',off'+k*8+j,none⟩) (by show b'<_;omega)).trans (hd k hlt j hj)
    have hd0:wr.cell? ⟨b',off'+k*8,none⟩=some (C' k 0):=hdk 0 (by omega)
    have hd1:wr.cell? ⟨b',off'+k*8+1,none⟩=some (C' k 1):=hdk 1 (by omega)
    have hd2:wr.cell? ⟨b',off'+k*8+2,none⟩=some (C' k 2):=hdk 2 (by omega)
    have hd3:wr.cell? ⟨b',off'+k*8+3,none⟩=some (C' k 3):=hdk 3 (by omega)
    have hd4:wr.cell? ⟨b',off'+k*8+4,none⟩=some (C' k 4):=hdk 4 (by omega)
    have hd5:wr.cell? ⟨b',off'+k*8+5,none⟩=some (C' k 5):=hdk 5 (by omega)
    have hd6:wr.cell? ⟨b',off'+k*8+6,none⟩=some (C' k 6):=hdk 6 (by omega)
    have hd7:wr.cell? ⟨b',off'+k*8+7,none⟩=some (C' k 7):=hdk 7 (by omega)
    clear hdk hd
    go_wp2_with fail
    go_region_with (go_at_call 150;refine(aN9 (fth ks k) _ B _ _ ((hr k hlt).under ((hbel.drew).mono hB)) ((hr' k hlt).under ((hbel.drew).mono hB)) (by have:=hbel.size;simp;omega)).mono ?_;rintro e w1 ⟨rfl,hby⟩)
    all_goals
     go_wp2_with fail
     go_roundw
     case rel=>exact⟨k+1,by omega,by go_num,hbel.drew.trans (hby.mono (by have:=hbel.size;simpa using this))⟩
     case measure=>simp[intOf];omega
   ·go_wp2_with fail
    go_ret
    exact⟨rfl,hbel⟩
set_option maxHeartbeats 800000 in
theorem aQ2(t:T)(w:World)(B:Nat)(v v':Value)(hR:TRep w (·<B) t v)(hR':TRep w (·<B) t v')(hB:B≤w.heap.size):
  Calls Tryz.prog 88 #[v,v'] w fun e w'=>e=.returned (.bool true)∧Below w.heap.size w w':=by
 obtain⟨na,nc,rfl,hs,-⟩:=hR
 obtain⟨na',nc',rfl,hs',-⟩:=hR'
 obtain⟨name,key,fields⟩:=t
 simp only at hs hs'
 go_enter Tryz.func88,Tryz.ntmps88
 go_wp2_with (
   go_at_call 121
   refine(aMW fields _ B na na' nc nc' (hs.under ((aA5 w _ _).mono hB)) (hs'.under ((aA5 w _ _).mono hB)) (by simp;omega)).mono ?_
   rintro e w' ⟨rfl,hb⟩)
 go_ret
 exact⟨rfl,(aA5 w _ _).trans (hb.mono (by simp;omega))⟩
set_option maxHeartbeats 800000 in
theorem aN6(ks:List T)(w:World)(B:Nat)(a a':Option Addr)(c c':Nat)(hK:aCP w (·<B) ks a)(hK':aCP w (·<B) ks a')(hB:B≤w.heap.size):
  Calls Tryz.prog 60 #[.slice a ks.length c,.slice a' ks.length c'] w fun e w'=>e=.returned (.bool true)∧Below w.heap.size w w':=by
 have h3:=hK.1
 obtain⟨-,C,hA,hr⟩:=hK
 obtain⟨-,C',hA',hr'⟩:=hK'
 by_cases hn0:ks.length=0
 ·have hns:ks=[]:=by simpa using hn0
  subst hns
  go_enter Tryz.func60,Tryz.ntmps60
  go_wp2_with fail
  go_loop [5] (fun i=>i=.int .i64 0) (fun _=>0)
  case atStart=>rfl
  case round=>
   subst hrel
   go_wp2_with fail
   go_ret
   exact⟨rfl,Below.refl _ _⟩
 ·obtain⟨b,off,rfl,hbB,hc⟩:=hA (by omega)
  obtain⟨b',off',rfl,hbB',hd⟩:=hA' (by omega)
  clear hA hA'
  go_enter Tryz.func60,Tryz.ntmps60
  go_wp2_with fail
  go_loopw [5] (fun i wr=>∃k:Nat,k≤ks.length∧i=.int .i64 k∧Below w.heap.size w wr) (fun i _=>ks.length- (intOf i).toNat)
  case atStart=>exact⟨0,Nat.zero_le _,rfl,Below.refl _ _⟩
  case round=>
   obtain⟨k,hk,rfl,hbel⟩:=hrel
   by_cases hlt:k<ks.length
   ·have hck:∀j,j<3→wr.cell? ⟨b,off+k*3+j,none⟩=some (C k j):=fun j hj=>(hbel.cell (p:=⟨b,off+k*3+j,none⟩) (by show b<_;omega)).trans (hc k hlt j hj)
    have hc0:wr.cell? ⟨b,off+k*3,none⟩=some (C k 0):=hck 0 (by omega)
    have hc1:wr.cell? ⟨b,off+k*3+1,none⟩=some (C k 1):=hck 1 (by omega)
    have hc2:wr.cell? ⟨b,off+k*3+2,none⟩=some (C k 2):=hck 2 (by omega)
    clear hck hc
    have hdk:∀j,j<3→wr.cell? ⟨b',off'+k*3+j,none⟩=some (C' k j):=fun j hj=>(hbel.cell (p:=⟨b',off'+k*3+j,none⟩) (by show b'<_;omega)).trans (hd k hlt j hj)
    have hd0:wr.cell? ⟨b',off'+k*3,none⟩=some (C' k 0):=hdk 0 (by omega)
    have hd1:wr.cell? ⟨b',off'+k*3+1,none⟩=some (C' k 1):=hdk 1 (by omega)
    have hd2:wr.cell? ⟨b',off'+k*3+2,none⟩=some (C' k 2):=hdk 2 (by omega)
    clear hdk hd
    go_wp2_with fail
    go_region_with (go_at_call 88;refine(aQ2 (tth ks k) _ B _ _ ((hr k hlt).under ((hbel.drew).mono hB)) ((hr' k hlt).under ((hbel.drew).mono hB)) (by have:=hbel.size;simp;omega)).mono ?_;rintro e w1 ⟨rfl,hby⟩)
    all_goals
     go_wp2_with fail
     go_roundw
     case rel=>exact⟨k+1,by omega,by go_num,hbel.drew.trans (hby.mono (by have:=hbel.size;simpa using this))⟩
     case measure=>simp[intOf];omega
   ·go_wp2_with fail
    go_ret
    exact⟨rfl,hbel⟩
set_option maxHeartbeats 800000 in
theorem aPE(p:Pt)(w:World)(B:Nat)(v v':Value)(hR:PRep w (·<B) p v)(hR':PRep w (·<B) p v')(hB:B≤w.heap.size):
  Calls Tryz.prog 34 #[v,v'] w fun e w'=>e=.returned (.bool true)∧Below w.heap.size w w':=by
 obtain⟨na,nc,rfl,hs,-⟩:=hR
 obtain⟨na',nc',rfl,hs',-⟩:=hR'
 obtain⟨name,types⟩:=p
 simp only at hs hs'
 go_enter Tryz.func34,Tryz.ntmps34
 go_wp2_with (
   go_at_call 60
   refine(aN6 types _ B na na' nc nc' (hs.under ((aA5 w _ _).mono hB)) (hs'.under ((aA5 w _ _).mono hB)) (by simp;omega)).mono ?_
   rintro e w' ⟨rfl,hb⟩)
 go_ret
 exact⟨rfl,(aA5 w _ _).trans (hb.mono (by simp;omega))⟩
end Go.Proofs.YtcebpkeiaiiphaaGreatDoor
namespace Go.Proofs.YtcebpkeiaiiphaaGreatDoor
open Go.RowKit Go.Maps
theorem aG9(fs:List F)(g:F)(i:Nat)(h:i<fs.length):fth (fs++[g]) i=fth fs i:=by
 simp[fth,List.getD_eq_getElem?_getD,List.getElem?_append_left h]
theorem aGC(fs:List F)(g:F):fth (fs++[g]) fs.length=g:=by
 simp[fth,List.getD_eq_getElem?_getD]
def aD7(C:Nat→Nat→Value)(n:Nat):List Value:=(List.range (n*3)).map fun j=>C (j / 3) (j % 3)
theorem aDP(C:Nat→Nat→Value)(n:Nat):(aD7 C n).length=n*3:=by simp[aD7]
theorem aGZ(C:Nat→Nat→Value)(n i j:Nat)(hi:i<n)(hj:j<3):(aD7 C n)[i*3+j]?=some (C i j):=by
 have h1:i*3+j<n*3:=by omega
 have h2:(i*3+j) / 3=i:=by omega
 have h3:(i*3+j) % 3=j:=by omega
 simp[aD7,h1,h2,h3]
theorem aOE{L:List Value}{C:Nat→Nat→Value}{n:Nat}(hl:L.length=n*3)(h:∀i,i<n→∀j,j<3→L[i*3+j]?=some (C i j)):L=aD7 C n:=by
 apply List.ext_getElem?
 intro x
 by_cases hx:x<n*3
 ·have e:x / 3*3+x % 3=x:=by omega
  have h1:=h (x / 3) (by omega) (x % 3) (Nat.mod_lt _ (by omega))
  have h2:=aGZ C n (x / 3) (x % 3) (by omega) (Nat.mod_lt _ (by omega))
  rw[e] at h1 h2
  rw[h1,h2]
 ·rw[List.getElem?_eq_none (by omega),List.getElem?_eq_none (by rw[aDP];omega)]
theorem aRU(C:Nat→Nat→Value)(n i:Nat)(hi:i<n)(d:Nat→Value):
  (((aD7 C n).set (i*3) (d 0)).set (i*3+1) (d 1)).set (i*3+2) (d 2)=aD7 (fun a j=>if a=i then d j else C a j) n:=by
 apply aOE
 ·simp[aDP]
 ·intro a ha j hj
  have h0:=aGZ C n a j ha hj
  by_cases e:a=i
  ·subst e
   rw[if_pos rfl]
   have hlen:(aD7 C n).length=n*3:=aDP C n
   rcases j with _| _| _| j
   ·rw[List.getElem?_set_ne (by omega),List.getElem?_set_ne (by omega),Nat.add_zero,List.getElem?_set_self (by omega)]
   ·rw[List.getElem?_set_ne (by omega),List.getElem?_set_self (by simp[hlen];omega)]
   ·rw[List.getElem?_set_self (by simp[hlen];omega)]
   ·omega
  ·rw[if_neg e,List.getElem?_set_ne (by omega),List.getElem?_set_ne (by omega),List.getElem?_set_ne (by omega),h0]
theorem aPA(C:Nat→Nat→Value)(n:Nat)(d0 d1 d2:Value):aD7 C n++[d0,d1,d2]=aD7 (fun a j=>if a<n then C a j else[d0,d1,d2].getD j undef) (n+1):=by
 apply aOE
 ·simp[aDP];omega
 ·intro a ha j hj
  by_cases e:a<n
  ·rw[if_pos e,List.getElem?_append_left (by rw[aDP];omega),aGZ _ _ _ _ e hj]
  ·have:a=n:=by omega
   subst this
   rw[if_neg e,List.getElem?_append_right (by rw[aDP];omega),aDP,Nat.add_sub_cancel_left]
   rcases j with _| _| _| j
   all_goals first| rfl| omega
theorem aFL(ts:List T)(g:T)(k i:Nat)(h:i≠k):tth (ts.set k g) i=tth ts i:=by
 simp[tth,List.getD_eq_getElem?_getD,List.getElem?_set_ne (Ne.symm h)]
theorem aH5(ts:List T)(g:T)(k:Nat)(h:k<ts.length):tth (ts.set k g) k=g:=by
 simp[tth,List.getD_eq_getElem?_getD,List.getElem?_set_self h]
theorem aEP(ts:List T)(g:T)(i:Nat)(h:i<ts.length):tth (ts++[g]) i=tth ts i:=by
 simp[tth,List.getD_eq_getElem?_getD,List.getElem?_append_left h]
theorem aDY(ts:List T)(g:T):tth (ts++[g]) ts.length=g:=by
 simp[tth,List.getD_eq_getElem?_getD]
end Go.Proofs.YtcebpkeiaiiphaaGreatDoor
namespace Go.Proofs.YtcebpkeiaiiphaaGreatDoor
open Go.RowKit Go.Deep Go.ChangeShapes
theorem Tryz.cells43:Tryz.prog.cellsOf 43=2:=by kernel_rfl
theorem Tryz.cells125:Tryz.prog.cellsOf 125=3:=by kernel_rfl
theorem Tryz.cells222:Tryz.prog.cellsOf 222=8:=by kernel_rfl
theorem Tryz.cells4:Tryz.prog.cellsOf 4=1:=by kernel_rfl
theorem Tryz.cells41:Tryz.prog.cellsOf 41=1:=by kernel_rfl
theorem Tryz.cells123:Tryz.prog.cellsOf 123=1:=by kernel_rfl
theorem Tryz.bytes125:Tryz.prog.bytesOf 125=56:=by kernel_rfl
theorem Tryz.bytes222:Tryz.prog.bytesOf 222=64:=by kernel_rfl
section
variable {H:Type} {enc:TypeId× Value→H} {w:World}
theorem aPX(fuel:Nat)(cs:List Value)(x:DataW H× List MemPlace)(h:DataW.trod enc Tryz.prog w 0 (fun _=>true) true fuel 222 cs=some x)(hl:aJ2 222 x.1):
  cs.length=8∧∃(f:F) (c0 c1 c2 c3 c4 c5 c6 c7:Value),cs=[c0,c1,c2,c3,c4,c5,c6,c7]∧FRep w (·<w.heap.size) f (.agg #[c0,c1,c2,c3,c4,c5,c6,c7]):=by
 obtain⟨xs,m,rfl,rfl,hlen,hxl,hf⟩:=DataW.trod_struct Tryz.underlying222 h
 rw[Tryz.cells222] at hlen
 refine⟨hlen,?_⟩
 have hxl':xs.length=8:=hxl
 clear hxl
 rcases cs with _| ⟨c0,_| ⟨c1,_| ⟨c2,_| ⟨c3,_| ⟨c4,_| ⟨c5,_| ⟨c6,_| ⟨c7,_| ⟨c8,cs9⟩⟩⟩⟩⟩⟩⟩⟩⟩<;>simp at hlen
 rcases xs with _| ⟨y0,_| ⟨y1,_| ⟨y2,_| ⟨y3,_| ⟨y4,_| ⟨y5,_| ⟨y6,_| ⟨y7,_| ⟨y8,ys9⟩⟩⟩⟩⟩⟩⟩⟩⟩<;>simp at hxl'
 have f0:DataW.trod enc Tryz.prog w 0 (fun _=>true) true m 9 [c0]=some y0:=by have:=hf 0 _ rfl;simpa[Tryz.cells9] using this
 have f1:DataW.trod enc Tryz.prog w 0 (fun _=>true) true m 9 [c1]=some y1:=by have:=hf 1 _ rfl;simpa[Tryz.cells9] using this
 have f2:DataW.trod enc Tryz.prog w 0 (fun _=>true) true m 4 [c2]=some y2:=by have:=hf 2 _ rfl;simpa[Tryz.cells4] using this
 have f3:DataW.trod enc Tryz.prog w 0 (fun _=>true) true m 4 [c3]=some y3:=by have:=hf 3 _ rfl;simpa[Tryz.cells4] using this
 have f4:DataW.trod enc Tryz.prog w 0 (fun _=>true) true m 4 [c4]=some y4:=by have:=hf 4 _ rfl;simpa[Tryz.cells4] using this
 have f5:DataW.trod enc Tryz.prog w 0 (fun _=>true) true m 4 [c5]=some y5:=by have:=hf 5 _ rfl;simpa[Tryz.cells4] using this
 have f6:DataW.trod enc Tryz.prog w 0 (fun _=>true) true m 4 [c6]=some y6:=by have:=hf 6 _ rfl;simpa[Tryz.cells4] using this
 have f7:DataW.trod enc Tryz.prog w 0 (fun _=>true) true m 33 [c7]=some y7:=by have:=hf 7 _ rfl;simpa[Tryz.cells33] using this
 have l7:aJ2 33 y7.1:=fun k hk=>hl k (by simp[DataW.weights,Tryz.underlying222,DataW.weightsEach,hk])
 clear hf h hl
 obtain⟨nm,e0,-,hn⟩:=DataW.trod_string Tryz.underlying9 f0
 obtain⟨of,e1,-,ho⟩:=DataW.trod_string Tryz.underlying9 f1
 obtain⟨b2,e2,-⟩:=DataW.trod_bool Tryz.underlying4 f2
 obtain⟨b3,e3,-⟩:=DataW.trod_bool Tryz.underlying4 f3
 obtain⟨b4,e4,-⟩:=DataW.trod_bool Tryz.underlying4 f4
 obtain⟨b5,e5,-⟩:=DataW.trod_bool Tryz.underlying4 f5
 obtain⟨b6,e6,-⟩:=DataW.trod_bool Tryz.underlying4 f6
 obtain⟨ns,na,nc,rfl,hS,hnc,hb⟩:=aQV f7 l7
 simp only[List.cons.injEq,and_true] at e0 e1 e2 e3 e4 e5 e6
 subst e0 e1 e2 e3 e4 e5 e6
 exact⟨⟨nm,of,b2,b3,b4,b5,b6,ns⟩,_,_,_,_,_,_,_,_,rfl,na,nc,rfl,hS,hnc,hn,ho,hb⟩
theorem aRL(fuel:Nat)(cs:List Value)(x:DataW H× List MemPlace)(h:DataW.trod enc Tryz.prog w 0 (fun _=>true) true fuel 125 cs=some x)(hl:aJ2 125 x.1):
  cs.length=3∧∃(t:T) (c0 c1 c2:Value),cs=[c0,c1,c2]∧TRep w (·<w.heap.size) t (.agg #[c0,c1,c2]):=by
 obtain⟨xs,m,rfl,rfl,hlen,hxl,hf⟩:=DataW.trod_struct Tryz.underlying125 h
 rw[Tryz.cells125] at hlen
 refine⟨hlen,?_⟩
 have hxl':xs.length=3:=hxl
 clear hxl
 rcases cs with _| ⟨c0,_| ⟨c1,_| ⟨c2,_| ⟨c3,cs9⟩⟩⟩⟩<;>simp at hlen
 rcases xs with _| ⟨y0,_| ⟨y1,_| ⟨y2,_| ⟨y3,ys9⟩⟩⟩⟩<;>simp at hxl'
 have f0:DataW.trod enc Tryz.prog w 0 (fun _=>true) true m 9 [c0]=some y0:=by have:=hf 0 _ rfl;simpa[Tryz.cells9] using this
 have f1:DataW.trod enc Tryz.prog w 0 (fun _=>true) true m 9 [c1]=some y1:=by have:=hf 1 _ rfl;simpa[Tryz.cells9] using this
 have f2:DataW.trod enc Tryz.prog w 0 (fun _=>true) true m 123 [c2]=some y2:=by have:=hf 2 _ rfl;simpa[Tryz.cells123] using this
 have l2:aJ2 123 y2.1:=fun k hk=>hl k (by simp[DataW.weights,Tryz.underlying125,DataW.weightsEach,hk])
 clear hf h hl
 obtain⟨nm,e0,-,hn⟩:=DataW.trod_string Tryz.underlying9 f0
 obtain⟨ky,e1,-,ho⟩:=DataW.trod_string Tryz.underlying9 f1
 obtain⟨fs,fa,fc,C,rfl,hfc,hb,hA,hr⟩:=aJG F.zero (fun f cs=>∃(c0 c1 c2 c3 c4 c5 c6 c7:Value),cs=[c0,c1,c2,c3,c4,c5,c6,c7]∧FRep w (·<w.heap.size) f (.agg #[c0,c1,c2,c3,c4,c5,c6,c7])) 123 222 8 64 Tryz.underlying123 Tryz.cells222 Tryz.bytes222 (by omega) f2 l2 aPX
 simp only[List.cons.injEq,and_true] at e0 e1
 subst e0 e1
 refine⟨⟨nm,ky,fs⟩,_,_,_,rfl,fa,fc,rfl,⟨hb,C,hA,fun i hi=>?_⟩,hfc,hn,ho⟩
 obtain⟨d0,d1,d2,d3,d4,d5,d6,d7,hd,hR⟩:=hr i hi
 simp only[List.range,List.range.loop,List.map_cons,List.map_nil,List.cons.injEq,and_true] at hd
 obtain⟨rfl,rfl,rfl,rfl,rfl,rfl,rfl,rfl⟩:=hd
 exact hR
theorem aRE(fuel:Nat)(cs:List Value)(x:DataW H× List MemPlace)(h:DataW.trod enc Tryz.prog w 0 (fun _=>true) true fuel 43 cs=some x)(hl:aJ2 43 x.1):
  ∃(p:Pt) (c0 c1:Value),cs=[c0,c1]∧PRep w (·<w.heap.size) p (.agg #[c0,c1]):=by
 obtain⟨xs,m,rfl,rfl,hlen,hxl,hf⟩:=DataW.trod_struct Tryz.underlying43 h
 rw[Tryz.cells43] at hlen
 have hxl':xs.length=2:=hxl
 clear hxl
 rcases cs with _| ⟨c0,_| ⟨c1,_| ⟨c2,cs9⟩⟩⟩<;>simp at hlen
 rcases xs with _| ⟨y0,_| ⟨y1,_| ⟨y2,ys9⟩⟩⟩<;>simp at hxl'
 have f0:DataW.trod enc Tryz.prog w 0 (fun _=>true) true m 9 [c0]=some y0:=by have:=hf 0 _ rfl;simpa[Tryz.cells9] using this
 have f1:DataW.trod enc Tryz.prog w 0 (fun _=>true) true m 41 [c1]=some y1:=by have:=hf 1 _ rfl;simpa[Tryz.cells41] using this
 have l1:aJ2 41 y1.1:=fun k hk=>hl k (by simp[DataW.weights,Tryz.underlying43,DataW.weightsEach,hk])
 clear hf h hl
 obtain⟨nm,e0,-,hn⟩:=DataW.trod_string Tryz.underlying9 f0
 obtain⟨ts,ta,tc,C,rfl,htc,hb,hA,hr⟩:=aJG T.zero (fun t cs=>∃(c0 c1 c2:Value),cs=[c0,c1,c2]∧TRep w (·<w.heap.size) t (.agg #[c0,c1,c2])) 41 125 3 56 Tryz.underlying41 Tryz.cells125 Tryz.bytes125 (by omega) f1 l1 aRL
 simp only[List.cons.injEq,and_true] at e0
 subst e0
 refine⟨⟨nm,ts⟩,_,_,rfl,ta,tc,rfl,⟨hb,C,hA,fun i hi=>?_⟩,htc,hn⟩
 obtain⟨d0,d1,d2,hd,hR⟩:=hr i hi
 simp only[List.range,List.range.loop,List.map_cons,List.map_nil,List.cons.injEq,and_true] at hd
 obtain⟨rfl,rfl,rfl⟩:=hd
 exact hR
end
end Go.Proofs.YtcebpkeiaiiphaaGreatDoor
