import Derived.Test.YtcebpkeiaiiphaaGreatDoorRC12
set_option linter.unusedSimpArgs false
set_option linter.unusedVariables false
namespace Go.Proofs.YtcebpkeiaiiphaaGreatDoor
open Go.RowKit
theorem aOV(fs:List F)(i j:Nat)(h:j<i):fth (fs.take i) j=fth fs j:=by
 simp[fth,List.getD_eq_getElem?_getD,List.getElem?_take,h]
theorem aBJ.take{w:World}{P:Nat->Prop}{fs:List F}{fa:Option Addr}(h:aBJ w P fs fa)(i:Nat)(hi:i<=fs.length):aBJ w P (fs.take i) fa:=by
 obtain⟨h0,C,h1,h2⟩:=h;have hl:(fs.take i).length=i:=by simp;omega
 refine⟨by rw[hl];omega,C,fun hp=>?_,fun j hj=>?_⟩
 ·obtain⟨b,off,e,hb,hc⟩:=h1 (by omega)
  exact⟨b,off,e,hb,fun j hj=>hc j (by omega)⟩
 ·rw[aOV fs i j (by omega)]
  exact h2 j (by omega)
theorem aLH{p q:Nat->Bool}(n:Nat)(h:∀i,i<n->p i=q i):aA9 p n=aA9 q n:=by
 rcases aA8 p n with⟨e,hp⟩| ⟨k,e,hk,hpk,hp⟩
 ·rw[e,aB3 fun i hi=>by rw[<-h i hi];exact hp i hi]
 ·rw[e,aAX (fun i hi=>by rw[<-h i (by omega)];exact hp i hi) (by rw[<-h k hk];exact hpk) hk]
def aN4(t:T)(i:Nat):Bool:=!decide (0<=aA9 (fun j=>(fth t.fields j).name.toList==(fth t.fields i).name.toList) i)
def aCY(t:T)(n:Nat):Bool:=(List.range n).all fun i=>aN4 t i
theorem aHX(t:T)(n:Nat):aCY t (n+1)=(aCY t n&&aN4 t n):=by simp[aCY,List.range_succ]
def aCH(types:List T)(place:Nat)(t:T):Bool:=decide (0<=aA9 (fun i=>(tth types i).name.toList==t.name.toList) place)||!aCY t t.fields.length
set_option maxHeartbeats 1600000 in
theorem aJH(types:List T)(place:Nat)(t:T)(w:World)(B:Nat)(ta:Option Addr)(tc:Nat)(u:Value)(hT:aDA w (·<B) types ta)(hpl:place<=types.length)(hR:TRep w (·<B) t u)(hB:B<=w.heap.size):
  Calls Tryz.prog 132 #[.slice ta place tc,u] w fun e w'=>e=.returned (.bool (aCH types place t))∧Below w.heap.size w w':=by
 obtain⟨name,key,fields⟩:=t;obtain⟨fa,fc,rfl,hK,hnc,hn,ho⟩:=hR;simp only at hK hnc hn ho;have h3:=hK.1;have h4:=hT.1;go_enter Tryz.func132,Tryz.ntmps132
 go_wp2_with fail
 go_loopw [13] (fun i wr=>∃k:Nat,k<=place∧i=.int .i64 k∧Below (w.heap.size+1) (w.alloc (.cells #[.string name,.string key,.slice fa fields.length fc] 96)) wr∧∀j,j<k->((tth types j).name.toList==name.toList)=false) (fun i _=>place- (intOf i).toNat)
 case atStart=>exact⟨0,Nat.zero_le _,rfl,Below.refl _ _,fun j hj=>by omega⟩
 case round=>
  obtain⟨k,hk,rfl,hbel,hp⟩:=hrel;have HP:Hid (∀j,j<k->((tth types j).name.toList==name.toList)=false):=hp;clear hp;have hz:=hbel.size;simp at hz;have hbw:Below w.heap.size w wr:=(aA2 w _).trans (hbel.mono (by omega))
  have hcell:∀W,Below (w.heap.size+1) (w.alloc (.cells #[.string name,.string key,.slice fa fields.length fc] 96)) W->W.cell? ⟨w.heap.size,0,none⟩=some (.string name)∧W.cell? ⟨w.heap.size,2,none⟩=some (.slice fa fields.length fc):=fun W h=>
   ⟨(h.cell (p:=⟨w.heap.size,0,none⟩) (by show w.heap.size<_;omega)).trans (aBC _ _ 0 (by simp)),(h.cell (p:=⟨w.heap.size,2,none⟩) (by show w.heap.size<_;omega)).trans (aBC _ _ 2 (by simp))⟩
  by_cases hlt:k<place
  ·obtain⟨b,off,fa2,fc2,rfl,-,hcs⟩:=hT.at hB k (by omega)
   obtain⟨c0,c1,c2⟩:=hcs wr hbw;have q0:=fun o=>(hcell (wr.alloc o) (hbel.alloc (by omega) o)).1
   clear hcs;cases x1:((tth types k).name.toList==name.toList)
   ·go_wp2_with fail
    go_roundw
    case rel=>exact⟨k+1,by omega,by go_num,hbel.alloc (by omega) _,aIQ HP.out x1⟩
    case measure=>simp[intOf];omega
   ·have hres:Hid (aCH types place ⟨name,key,fields⟩=true):=by
     show _=_;rw[aCH,aAX HP.out x1 hlt,decide_eq_true (by omega)];rfl
    go_wp2_with fail
    go_ret
    exact⟨aA4 hres.out.symm,hbw.alloc (by omega) _⟩
  ·have HT:Hid (aCH types place ⟨name,key,fields⟩=!aCY ⟨name,key,fields⟩ fields.length):=by
    show _=_;have e:k=place:=by omega
    rw[aCH,aB3 (e▸HP.out)];rfl
   clear HP;obtain⟨q0,q2⟩:=hcell wr hbel;go_wp2_with fail
   go_loopw [26] (fun i w2=>∃k:Nat,k<=fields.length∧i=.int .i64 k∧Below (w.heap.size+1) (w.alloc (.cells #[.string name,.string key,.slice fa fields.length fc] 96)) w2∧w.heap.size<w2.heap.size∧aCY ⟨name,key,fields⟩ k=true) (fun i _=>fields.length- (intOf i).toNat)
   case atStart=>exact⟨0,Nat.zero_le _,rfl,hbel,by omega,rfl⟩
   case round=>
    clear q0 q2 hbw hbel hz hlt hk;rename_i wr;obtain⟨k,hk,rfl,hbel,hz,hp⟩:=hrel;have HP:Hid (aCY ⟨name,key,fields⟩ k=true):=hp;clear hp;have hbw:Below w.heap.size w wr:=(aA2 w _).trans (hbel.mono (by omega))
    by_cases hlt:k<fields.length
    ·obtain⟨b,off,na,nc,rfl,-,hcs⟩:=hK.at hB k hlt;obtain⟨c0,c1,c2,c3,c4,c5,c6,c7⟩:=hcs wr hbw;have q2:=fun o=>(hcell (wr.alloc o) (hbel.alloc (by omega) o)).2
     have hTR:∀W,Below w.heap.size w W->TRep W (·<B) ⟨ByteArray.empty,ByteArray.empty,fields.take k⟩ (.agg #[.string ByteArray.empty,.string ByteArray.empty,.slice (some ⟨b,off,none⟩) k fc]):=fun W hb=>
      ⟨some ⟨b,off,none⟩,fc,by simp;omega,((hK.take k (by omega)).under (hb.mono hB)),by simp;omega,by simp[maxLen],by simp[maxLen]⟩
     have hix:aAB ⟨ByteArray.empty,ByteArray.empty,fields.take k⟩ (fth fields k).name=aA9 (fun j=>(fth fields j).name.toList==(fth fields k).name.toList) k:=by
      show aA9 (fun i=>(fth (fields.take k) i).name.toList==(fth fields k).name.toList) (fields.take k).length=_;rw[show(fields.take k).length=k by simp;omega]
      exact aLH k fun i hi=>by rw[aOV fields k i hi]
     have hff:=fun W (hb:Below w.heap.size w W)=>aCP ⟨ByteArray.empty,ByteArray.empty,fields.take k⟩ W B _ (fth fields k).name (hTR W hb) (by have:=hb.size;omega)
     rw[hix] at hff;have HO:Hid (aN4 ⟨name,key,fields⟩ k=!decide (0<=aA9 (fun j=>(fth fields j).name.toList==(fth fields k).name.toList) k)):=rfl;clear hcs hix hTR;have hki:(k:Int)<=(fields.length:Int):=by omega
     have hkf:(k:Int)<=(fc:Int):=by omega
     have hW1:Below w.heap.size w (wr.alloc (.cells #[.string (fth fields k).name,.string (fth fields k).of,.bool (fth fields k).list,.bool (fth fields k).must,.bool (fth fields k).far,.bool (fth fields k).hidden,.bool (fth fields k).shared,.slice na (fth fields k).needs.length nc] 80)):=hbw.alloc (by omega) _
     have hW2:Below w.heap.size w ((wr.alloc (.cells #[.string (fth fields k).name,.string (fth fields k).of,.bool (fth fields k).list,.bool (fth fields k).must,.bool (fth fields k).far,.bool (fth fields k).hidden,.bool (fth fields k).shared,.slice na (fth fields k).needs.length nc] 80)).alloc (.cells #[.string ByteArray.empty,.string ByteArray.empty,.bool false,.bool false,.bool false,.bool false,.bool false,.slice none 0 0] 80)):=hW1.alloc (by simp;omega) _
     cases x1:decide (0<=aA9 (fun j=>(fth fields j).name.toList==(fth fields k).name.toList) k)
     ·rw[x1] at hff;go_wp2_with fail
      go_region_held3 (fun w'=>w'.cell? ⟨w.heap.size,2,none⟩=some (.slice (some ⟨b,off,none⟩) fields.length fc)∧w'.cell? ⟨wr.heap.size,0,none⟩=some (.string (fth fields k).name)) (go_keep)
       (first
        |(
         go_at_call 98
         first
          |(
           refine(hff (wr.alloc (.cells #[.string (fth fields k).name,.string (fth fields k).of,.bool (fth fields k).list,.bool (fth fields k).must,.bool (fth fields k).far,.bool (fth fields k).hidden,.bool (fth fields k).shared,.slice na (fth fields k).needs.length nc] 80)).drew hW1.drew).mono ?_;rintro e w1 ⟨nm,of,l,m,fr,hi,sh,na3,nl3,nc3,rfl,hb1,-⟩;have hu:=aAF hb1;have z1:=hu.size;simp at z1;have g2:=(hcell w1 ((hbel.alloc (by omega) _).trans (hu.mono (by simp;omega)))).2
           have g0:w1.cell? ⟨wr.heap.size,0,none⟩=some (.string (fth fields k).name):=(hu.cell (p:=⟨wr.heap.size,0,none⟩) (by show wr.heap.size<_;simp)).trans (aBC _ _ 0 (by simp))
           have n1:w.heap.size≠w1.heap.size:=by omega
           have n2:wr.heap.size≠w1.heap.size:=by omega
           have hfin:Below (w.heap.size+1) (w.alloc (.cells #[.string name,.string key,.slice (some ⟨b,off,none⟩) fields.length fc] 96)) w1:=(hbel.alloc (by omega) _).trans (hu.mono (by simp;omega))
           have hend:∀W,(∃o,W=w1.alloc o)->Below (w.heap.size+1) (w.alloc (.cells #[.string name,.string key,.slice (some ⟨b,off,none⟩) fields.length fc] 96)) W∧w.heap.size<W.heap.size:=fun W ⟨o,e⟩=>by subst e;exact⟨hfin.alloc (by omega) _,by simp;omega⟩)
          |(
           refine(hff ((wr.alloc (.cells #[.string (fth fields k).name,.string (fth fields k).of,.bool (fth fields k).list,.bool (fth fields k).must,.bool (fth fields k).far,.bool (fth fields k).hidden,.bool (fth fields k).shared,.slice na (fth fields k).needs.length nc] 80)).alloc (.cells #[.string ByteArray.empty,.string ByteArray.empty,.bool false,.bool false,.bool false,.bool false,.bool false,.slice none 0 0] 80)).drew hW2.drew).mono ?_;rintro e w1 ⟨nm,of,l,m,fr,hi,sh,na3,nl3,nc3,rfl,hb1,-⟩;have hu:=aAF hb1;have z1:=hu.size;simp at z1;have g2:=(hcell w1 (((hbel.alloc (by omega) _).alloc (by simp;omega) _).trans (hu.mono (by simp;omega)))).2
           have g0:w1.cell? ⟨wr.heap.size,0,none⟩=some (.string (fth fields k).name):=(hu.cell (p:=⟨wr.heap.size,0,none⟩) (by show wr.heap.size<_;simp;omega)).trans (((aA2 _ _).cell (p:=⟨wr.heap.size,0,none⟩) (by show wr.heap.size<_;simp)).trans (aBC _ _ 0 (by simp)))
           have hzr:w1.heap[wr.heap.size+1]?=some (.cells #[.string ByteArray.empty,.string ByteArray.empty,.bool false,.bool false,.bool false,.bool false,.bool false,.slice none 0 0] 80 (0,0)):=(hu.block (wr.heap.size+1) (by simp)).trans (by have:=heap_alloc_new (wr.alloc (.cells #[.string (fth fields k).name,.string (fth fields k).of,.bool (fth fields k).list,.bool (fth fields k).must,.bool (fth fields k).far,.bool (fth fields k).hidden,.bool (fth fields k).shared,.slice na (fth fields k).needs.length nc] 80)) (.cells #[.string ByteArray.empty,.string ByteArray.empty,.bool false,.bool false,.bool false,.bool false,.bool false,.slice none 0 0] 80);simpa using this)
           have y0:=(aA1 hzr 0 (by simp)).1
           have y1:=(aA1 hzr 1 (by simp)).1
           have y2:=(aA1 hzr 2 (by simp)).1
           have y3:=(aA1 hzr 3 (by simp)).1
           have y4:=(aA1 hzr 4 (by simp)).1
           have y5:=(aA1 hzr 5 (by simp)).1
           have y6:=(aA1 hzr 6 (by simp)).1
           have y7:=(aA1 hzr 7 (by simp)).1
           have yf:∀i,w1.frozen? ⟨wr.heap.size+1,i,none⟩=false:=fun i=>frozen_of_row w1 _ i _ _ hzr;have n1:w.heap.size≠wr.heap.size+1:=by omega
           have n3:wr.heap.size+1≠w.heap.size:=by omega
           have n4:wr.heap.size+1≠wr.heap.size:=by omega
           have n2:wr.heap.size≠wr.heap.size+1:=by omega
           have hfin:Below (w.heap.size+1) (w.alloc (.cells #[.string name,.string key,.slice (some ⟨b,off,none⟩) fields.length fc] 96)) w1:=((hbel.alloc (by omega) _).alloc (by simp;omega) _).trans (hu.mono (by simp;omega))
           have hend:∀W,(∃c0 c1 c2 c3 c4 c5 c6 c7,W=((((((((w1.setCell ⟨wr.heap.size+1,0,none⟩ c0).setCell ⟨wr.heap.size+1,1,none⟩ c1).setCell ⟨wr.heap.size+1,2,none⟩ c2).setCell ⟨wr.heap.size+1,3,none⟩ c3).setCell ⟨wr.heap.size+1,4,none⟩ c4).setCell ⟨wr.heap.size+1,5,none⟩ c5).setCell ⟨wr.heap.size+1,6,none⟩ c6).setCell ⟨wr.heap.size+1,7,none⟩ c7))->Below (w.heap.size+1) (w.alloc (.cells #[.string name,.string key,.slice (some ⟨b,off,none⟩) fields.length fc] 96)) W∧w.heap.size<W.heap.size:=fun W ⟨c0,c1,c2,c3,c4,c5,c6,c7,e⟩=>by subst e;exact⟨((((((((hfin).setCell (by show _<=wr.heap.size+1;omega) _).setCell (by show _<=wr.heap.size+1;omega) _).setCell (by show _<=wr.heap.size+1;omega) _).setCell (by show _<=wr.heap.size+1;omega) _).setCell (by show _<=wr.heap.size+1;omega) _).setCell (by show _<=wr.heap.size+1;omega) _).setCell (by show _<=wr.heap.size+1;omega) _).setCell (by show _<=wr.heap.size+1;omega) _,by simp only[aC1];omega⟩)))
      all_goals
       go_wp2_with fail
       go_roundw
       case rel=>
        refine⟨k+1,by omega,by go_num,(hend _ ?_).1,(hend _ ?_).2,by rw[aHX,HP.out,HO.out,x1];rfl⟩
        all_goals first| exact⟨_,rfl⟩| exact⟨_,_,_,_,_,_,_,_,rfl⟩
       case measure=>simp[intOf];omega
     ·rw[x1] at hff;have hres:Hid (aCH types place ⟨name,key,fields⟩=true):=by
       show _=_;rw[HT.out,show aCY ⟨name,key,fields⟩ fields.length=false from aBM (k:=k) hlt (by rw[HO.out,x1];rfl)];rfl
      go_wp2_with fail
      go_region_held3 (fun w'=>w'.cell? ⟨w.heap.size,2,none⟩=some (.slice (some ⟨b,off,none⟩) fields.length fc)∧w'.cell? ⟨wr.heap.size,0,none⟩=some (.string (fth fields k).name)) (go_keep)
       (first
        |(
         go_at_call 98
         first
          |(
           refine(hff (wr.alloc (.cells #[.string (fth fields k).name,.string (fth fields k).of,.bool (fth fields k).list,.bool (fth fields k).must,.bool (fth fields k).far,.bool (fth fields k).hidden,.bool (fth fields k).shared,.slice na (fth fields k).needs.length nc] 80)).drew hW1.drew).mono ?_;rintro e w1 ⟨nm,of,l,m,fr,hi,sh,na3,nl3,nc3,rfl,hb1,-⟩;have hu:=aAF hb1;have z1:=hu.size;simp at z1;have g2:=(hcell w1 ((hbel.alloc (by omega) _).trans (hu.mono (by simp;omega)))).2
           have g0:w1.cell? ⟨wr.heap.size,0,none⟩=some (.string (fth fields k).name):=(hu.cell (p:=⟨wr.heap.size,0,none⟩) (by show wr.heap.size<_;simp)).trans (aBC _ _ 0 (by simp))
           have n1:w.heap.size≠w1.heap.size:=by omega
           have n2:wr.heap.size≠w1.heap.size:=by omega
           have hfin:Below (w.heap.size+1) (w.alloc (.cells #[.string name,.string key,.slice (some ⟨b,off,none⟩) fields.length fc] 96)) w1:=(hbel.alloc (by omega) _).trans (hu.mono (by simp;omega))
           have hend:∀W,(∃o,W=w1.alloc o)->Below (w.heap.size+1) (w.alloc (.cells #[.string name,.string key,.slice (some ⟨b,off,none⟩) fields.length fc] 96)) W∧w.heap.size<W.heap.size:=fun W ⟨o,e⟩=>by subst e;exact⟨hfin.alloc (by omega) _,by simp;omega⟩)
          |(
           refine(hff ((wr.alloc (.cells #[.string (fth fields k).name,.string (fth fields k).of,.bool (fth fields k).list,.bool (fth fields k).must,.bool (fth fields k).far,.bool (fth fields k).hidden,.bool (fth fields k).shared,.slice na (fth fields k).needs.length nc] 80)).alloc (.cells #[.string ByteArray.empty,.string ByteArray.empty,.bool false,.bool false,.bool false,.bool false,.bool false,.slice none 0 0] 80)).drew hW2.drew).mono ?_;rintro e w1 ⟨nm,of,l,m,fr,hi,sh,na3,nl3,nc3,rfl,hb1,-⟩;have hu:=aAF hb1;have z1:=hu.size;simp at z1;have g2:=(hcell w1 (((hbel.alloc (by omega) _).alloc (by simp;omega) _).trans (hu.mono (by simp;omega)))).2
           have g0:w1.cell? ⟨wr.heap.size,0,none⟩=some (.string (fth fields k).name):=(hu.cell (p:=⟨wr.heap.size,0,none⟩) (by show wr.heap.size<_;simp;omega)).trans (((aA2 _ _).cell (p:=⟨wr.heap.size,0,none⟩) (by show wr.heap.size<_;simp)).trans (aBC _ _ 0 (by simp)))
           have hzr:w1.heap[wr.heap.size+1]?=some (.cells #[.string ByteArray.empty,.string ByteArray.empty,.bool false,.bool false,.bool false,.bool false,.bool false,.slice none 0 0] 80 (0,0)):=(hu.block (wr.heap.size+1) (by simp)).trans (by have:=heap_alloc_new (wr.alloc (.cells #[.string (fth fields k).name,.string (fth fields k).of,.bool (fth fields k).list,.bool (fth fields k).must,.bool (fth fields k).far,.bool (fth fields k).hidden,.bool (fth fields k).shared,.slice na (fth fields k).needs.length nc] 80)) (.cells #[.string ByteArray.empty,.string ByteArray.empty,.bool false,.bool false,.bool false,.bool false,.bool false,.slice none 0 0] 80);simpa using this)
           have y0:=(aA1 hzr 0 (by simp)).1
           have y1:=(aA1 hzr 1 (by simp)).1
           have y2:=(aA1 hzr 2 (by simp)).1
           have y3:=(aA1 hzr 3 (by simp)).1
           have y4:=(aA1 hzr 4 (by simp)).1
           have y5:=(aA1 hzr 5 (by simp)).1
           have y6:=(aA1 hzr 6 (by simp)).1
           have y7:=(aA1 hzr 7 (by simp)).1
           have yf:∀i,w1.frozen? ⟨wr.heap.size+1,i,none⟩=false:=fun i=>frozen_of_row w1 _ i _ _ hzr;have n1:w.heap.size≠wr.heap.size+1:=by omega
           have n3:wr.heap.size+1≠w.heap.size:=by omega
           have n4:wr.heap.size+1≠wr.heap.size:=by omega
           have n2:wr.heap.size≠wr.heap.size+1:=by omega
           have hfin:Below (w.heap.size+1) (w.alloc (.cells #[.string name,.string key,.slice (some ⟨b,off,none⟩) fields.length fc] 96)) w1:=((hbel.alloc (by omega) _).alloc (by simp;omega) _).trans (hu.mono (by simp;omega))
           have hend:∀W,(∃c0 c1 c2 c3 c4 c5 c6 c7,W=((((((((w1.setCell ⟨wr.heap.size+1,0,none⟩ c0).setCell ⟨wr.heap.size+1,1,none⟩ c1).setCell ⟨wr.heap.size+1,2,none⟩ c2).setCell ⟨wr.heap.size+1,3,none⟩ c3).setCell ⟨wr.heap.size+1,4,none⟩ c4).setCell ⟨wr.heap.size+1,5,none⟩ c5).setCell ⟨wr.heap.size+1,6,none⟩ c6).setCell ⟨wr.heap.size+1,7,none⟩ c7))->Below (w.heap.size+1) (w.alloc (.cells #[.string name,.string key,.slice (some ⟨b,off,none⟩) fields.length fc] 96)) W∧w.heap.size<W.heap.size:=fun W ⟨c0,c1,c2,c3,c4,c5,c6,c7,e⟩=>by subst e;exact⟨((((((((hfin).setCell (by show _<=wr.heap.size+1;omega) _).setCell (by show _<=wr.heap.size+1;omega) _).setCell (by show _<=wr.heap.size+1;omega) _).setCell (by show _<=wr.heap.size+1;omega) _).setCell (by show _<=wr.heap.size+1;omega) _).setCell (by show _<=wr.heap.size+1;omega) _).setCell (by show _<=wr.heap.size+1;omega) _).setCell (by show _<=wr.heap.size+1;omega) _,by simp only[aC1];omega⟩)))
      all_goals
       go_wp2_with fail
       go_ret
       refine⟨aA4 hres.out.symm,(aA2 w _).trans ((hend _ ?_).1.mono (by omega))⟩
       all_goals first| exact⟨_,rfl⟩| exact⟨_,_,_,_,_,_,_,_,rfl⟩
    ·go_wp2_with fail
     go_ret
     have e:k=fields.length:=by omega
     exact⟨aA4 (by rw[HT.out,<-e,HP.out];rfl),hbw⟩
end Go.Proofs.YtcebpkeiaiiphaaGreatDoor
