import Derived.Test.YtcebpkeiaiiphaaGreatDoorRC2
set_option linter.unusedSimpArgs false
set_option linter.unusedVariables false
namespace Go.Proofs.YtcebpkeiaiiphaaGreatDoor
open Go.RowKit
set_option maxHeartbeats 800000 in
theorem aNR(f:F)(w:World)(B:Nat)(v v':Value)(hR:FRep w (·<B) f v)(hR':FRep w (·<B) f v')(hB:B<=w.heap.size):
  Calls Tryz.prog 150 #[v,v'] w fun e w'=>e=.returned (.bool true)∧Below w.heap.size w w':=by
 obtain⟨na,nc,rfl,hs,-⟩:=hR;obtain⟨na',nc',rfl,hs',-⟩:=hR';obtain⟨name,of,l,m,fa,hi,sh,needs⟩:=f;simp only at hs hs';go_enter Tryz.func150,Tryz.ntmps150
 go_wp2_with (
   go_at_call 18
   refine(aLI needs na na' nc nc' _ (·<B) (·<B) (hs.under ((aA6 w _ _).mono hB)) (hs'.under ((aA6 w _ _).mono hB))).mono ?_;rintro e w' ⟨rfl,m,rfl⟩)
 go_ret
 exact⟨rfl,aAQ (aA6 w _ _) _⟩
set_option maxHeartbeats 800000 in
theorem aN6(ks:List F)(w:World)(B:Nat)(a a':Option Addr)(c c':Nat)(hK:aBJ w (·<B) ks a)(hK':aBJ w (·<B) ks a')(hB:B<=w.heap.size):
  Calls Tryz.prog 121 #[.slice a ks.length c,.slice a' ks.length c'] w fun e w'=>e=.returned (.bool true)∧Below w.heap.size w w':=by
 have h3:=hK.1;obtain⟨-,C,hA,hr⟩:=hK;obtain⟨-,C',hA',hr'⟩:=hK';by_cases hn0:ks.length=0
 ·have hns:ks=[]:=by simpa using hn0
  subst hns;go_enter Tryz.func121,Tryz.ntmps121
  go_wp2_with fail
  go_loop [5] (fun i=>i=.int .i64 0) (fun _=>0)
  case atStart=>rfl
  case round=>
   subst hrel;go_wp2_with fail
   go_ret
   exact⟨rfl,Below.refl _ _⟩
 ·obtain⟨b,off,rfl,hbB,hc⟩:=hA (by omega)
  obtain⟨b',off',rfl,hbB',hd⟩:=hA' (by omega)
  clear hA hA';go_enter Tryz.func121,Tryz.ntmps121
  go_wp2_with fail
  go_loopw [5] (fun i wr=>∃k:Nat,k<=ks.length∧i=.int .i64 k∧Below w.heap.size w wr) (fun i _=>ks.length- (intOf i).toNat)
  case atStart=>exact⟨0,Nat.zero_le _,rfl,Below.refl _ _⟩
  case round=>
   obtain⟨k,hk,rfl,hbel⟩:=hrel;by_cases hlt:k<ks.length
   ·have hck:∀j,j<8->wr.cell? ⟨b,off+k*8+j,none⟩=some (C k j):=fun j hj=>(hbel.cell (p:=⟨b,off+k*8+j,none⟩) (by show b<_;omega)).trans (hc k hlt j hj)
    have hc0:wr.cell? ⟨b,off+k*8,none⟩=some (C k 0):=hck 0 (by omega)
    have hc1:wr.cell? ⟨b,off+k*8+1,none⟩=some (C k 1):=hck 1 (by omega)
    have hc2:wr.cell? ⟨b,off+k*8+2,none⟩=some (C k 2):=hck 2 (by omega)
    have hc3:wr.cell? ⟨b,off+k*8+3,none⟩=some (C k 3):=hck 3 (by omega)
    have hc4:wr.cell? ⟨b,off+k*8+4,none⟩=some (C k 4):=hck 4 (by omega)
    have hc5:wr.cell? ⟨b,off+k*8+5,none⟩=some (C k 5):=hck 5 (by omega)
    have hc6:wr.cell? ⟨b,off+k*8+6,none⟩=some (C k 6):=hck 6 (by omega)
    have hc7:wr.cell? ⟨b,off+k*8+7,none⟩=some (C k 7):=hck 7 (by omega)
    clear hck hc;have hdk:∀j,j<8->wr.cell? ⟨b',off'+k*8+j,none⟩=some (C' k j):=fun j hj=>(hbel.cell (p:=⟨b',off'+k*8+j,none⟩) (by show b'<_;omega)).trans (hd k hlt j hj)
    have hd0:wr.cell? ⟨b',off'+k*8,none⟩=some (C' k 0):=hdk 0 (by omega)
    have hd1:wr.cell? ⟨b',off'+k*8+1,none⟩=some (C' k 1):=hdk 1 (by omega)
    have hd2:wr.cell? ⟨b',off'+k*8+2,none⟩=some (C' k 2):=hdk 2 (by omega)
    have hd3:wr.cell? ⟨b',off'+k*8+3,none⟩=some (C' k 3):=hdk 3 (by omega)
    have hd4:wr.cell? ⟨b',off'+k*8+4,none⟩=some (C' k 4):=hdk 4 (by omega)
    have hd5:wr.cell? ⟨b',off'+k*8+5,none⟩=some (C' k 5):=hdk 5 (by omega)
    have hd6:wr.cell? ⟨b',off'+k*8+6,none⟩=some (C' k 6):=hdk 6 (by omega)
    have hd7:wr.cell? ⟨b',off'+k*8+7,none⟩=some (C' k 7):=hdk 7 (by omega)
    clear hdk hd;go_wp2_with fail
    go_region_with (go_at_call 150;refine(aNR (fth ks k) _ B _ _ ((hr k hlt).under ((hbel.drew).mono hB)) ((hr' k hlt).under ((hbel.drew).mono hB)) (by have:=hbel.size;simp;omega)).mono ?_;rintro e w1 ⟨rfl,hby⟩)
    all_goals
     go_wp2_with fail
     go_roundw
     case rel=>exact⟨k+1,by omega,by go_num,hbel.drew.trans (hby.mono (by have:=hbel.size;simpa using this))⟩
     case measure=>simp[intOf];omega
   ·go_wp2_with fail
    go_ret
    exact⟨rfl,hbel⟩
set_option maxHeartbeats 800000 in
theorem aQE(t:T)(w:World)(B:Nat)(v v':Value)(hR:TRep w (·<B) t v)(hR':TRep w (·<B) t v')(hB:B<=w.heap.size):
  Calls Tryz.prog 88 #[v,v'] w fun e w'=>e=.returned (.bool true)∧Below w.heap.size w w':=by
 obtain⟨na,nc,rfl,hs,-⟩:=hR;obtain⟨na',nc',rfl,hs',-⟩:=hR';obtain⟨name,key,fields⟩:=t;simp only at hs hs';go_enter Tryz.func88,Tryz.ntmps88
 go_wp2_with (
   go_at_call 121
   refine(aN6 fields _ B na na' nc nc' (hs.under ((aA6 w _ _).mono hB)) (hs'.under ((aA6 w _ _).mono hB)) (by simp;omega)).mono ?_
   rintro e w' ⟨rfl,hb⟩)
 go_ret
 exact⟨rfl,(aA6 w _ _).trans (hb.mono (by simp;omega))⟩
set_option maxHeartbeats 800000 in
theorem aNP(ks:List T)(w:World)(B:Nat)(a a':Option Addr)(c c':Nat)(hK:aDA w (·<B) ks a)(hK':aDA w (·<B) ks a')(hB:B<=w.heap.size):
  Calls Tryz.prog 60 #[.slice a ks.length c,.slice a' ks.length c'] w fun e w'=>e=.returned (.bool true)∧Below w.heap.size w w':=by
 have h3:=hK.1;obtain⟨-,C,hA,hr⟩:=hK;obtain⟨-,C',hA',hr'⟩:=hK';by_cases hn0:ks.length=0
 ·have hns:ks=[]:=by simpa using hn0
  subst hns;go_enter Tryz.func60,Tryz.ntmps60
  go_wp2_with fail
  go_loop [5] (fun i=>i=.int .i64 0) (fun _=>0)
  case atStart=>rfl
  case round=>
   subst hrel;go_wp2_with fail
   go_ret
   exact⟨rfl,Below.refl _ _⟩
 ·obtain⟨b,off,rfl,hbB,hc⟩:=hA (by omega)
  obtain⟨b',off',rfl,hbB',hd⟩:=hA' (by omega)
  clear hA hA';go_enter Tryz.func60,Tryz.ntmps60
  go_wp2_with fail
  go_loopw [5] (fun i wr=>∃k:Nat,k<=ks.length∧i=.int .i64 k∧Below w.heap.size w wr) (fun i _=>ks.length- (intOf i).toNat)
  case atStart=>exact⟨0,Nat.zero_le _,rfl,Below.refl _ _⟩
  case round=>
   obtain⟨k,hk,rfl,hbel⟩:=hrel;by_cases hlt:k<ks.length
   ·have hck:∀j,j<3->wr.cell? ⟨b,off+k*3+j,none⟩=some (C k j):=fun j hj=>(hbel.cell (p:=⟨b,off+k*3+j,none⟩) (by show b<_;omega)).trans (hc k hlt j hj)
    have hc0:wr.cell? ⟨b,off+k*3,none⟩=some (C k 0):=hck 0 (by omega)
    have hc1:wr.cell? ⟨b,off+k*3+1,none⟩=some (C k 1):=hck 1 (by omega)
    have hc2:wr.cell? ⟨b,off+k*3+2,none⟩=some (C k 2):=hck 2 (by omega)
    clear hck hc;have hdk:∀j,j<3->wr.cell? ⟨b',off'+k*3+j,none⟩=some (C' k j):=fun j hj=>(hbel.cell (p:=⟨b',off'+k*3+j,none⟩) (by show b'<_;omega)).trans (hd k hlt j hj)
    have hd0:wr.cell? ⟨b',off'+k*3,none⟩=some (C' k 0):=hdk 0 (by omega)
    have hd1:wr.cell? ⟨b',off'+k*3+1,none⟩=some (C' k 1):=hdk 1 (by omega)
    have hd2:wr.cell? ⟨b',off'+k*3+2,none⟩=some (C' k 2):=hdk 2 (by omega)
    clear hdk hd;go_wp2_with fail
    go_region_with (go_at_call 88;refine(aQE (tth ks k) _ B _ _ ((hr k hlt).under ((hbel.drew).mono hB)) ((hr' k hlt).under ((hbel.drew).mono hB)) (by have:=hbel.size;simp;omega)).mono ?_;rintro e w1 ⟨rfl,hby⟩)
    all_goals
     go_wp2_with fail
     go_roundw
     case rel=>exact⟨k+1,by omega,by go_num,hbel.drew.trans (hby.mono (by have:=hbel.size;simpa using this))⟩
     case measure=>simp[intOf];omega
   ·go_wp2_with fail
    go_ret
    exact⟨rfl,hbel⟩
set_option maxHeartbeats 800000 in
theorem aQF(p:Pt)(w:World)(B:Nat)(v v':Value)(hR:PRep w (·<B) p v)(hR':PRep w (·<B) p v')(hB:B<=w.heap.size):
  Calls Tryz.prog 34 #[v,v'] w fun e w'=>e=.returned (.bool true)∧Below w.heap.size w w':=by
 obtain⟨na,nc,rfl,hs,-⟩:=hR;obtain⟨na',nc',rfl,hs',-⟩:=hR';obtain⟨name,types⟩:=p;simp only at hs hs';go_enter Tryz.func34,Tryz.ntmps34
 go_wp2_with (
   go_at_call 60
   refine(aNP types _ B na na' nc nc' (hs.under ((aA6 w _ _).mono hB)) (hs'.under ((aA6 w _ _).mono hB)) (by simp;omega)).mono ?_
   rintro e w' ⟨rfl,hb⟩)
 go_ret
 exact⟨rfl,(aA6 w _ _).trans (hb.mono (by simp;omega))⟩
end Go.Proofs.YtcebpkeiaiiphaaGreatDoor
