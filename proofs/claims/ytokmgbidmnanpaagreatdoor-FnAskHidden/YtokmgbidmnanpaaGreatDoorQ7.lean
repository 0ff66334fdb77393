import Derived.Test.YtokmgbidmnanpaaGreatDoorQ3
import Derived.Test.YtokmgbidmnanpaaGreatDoorQ4
set_option linter.unusedSimpArgs false
set_option linter.unusedVariables false
namespace Go.Proofs.YtokmgbidmnanpaaGreatDoor
open Go.RowKit
theorem aJ5{q:Nat→Bool}{k:Nat}(h:∀j,j<k→q j=false)(hk:q k=false):∀j,j<k+1→q j=false:=fun j hj=>by
 by_cases e:j=k
 ·subst e;exact hk
 ·exact h j (by omega)
def aCD(p:Pt)(s:ByteArray):Int:=aAI (fun i=>(tth p.types i).name.toList==s.toList) p.types.length
def aAY(p:Pt)(s:ByteArray):T:=if 0≤aCD p s then tth p.types (aCD p s).toNat else T.zero
theorem aC6.nil(w:World)(P:Nat→Prop)(a:Option Addr):aC6 w P [] a:=⟨by simp,fun _ _=>undef,fun h=>by simp at h,fun i hi=>by simp at hi⟩
theorem TRep.zero(w:World)(P:Nat→Prop):TRep w P T.zero (.agg #[.string ByteArray.empty,.string ByteArray.empty,.slice none 0 0]):=
 ⟨none,0,rfl,aC6.nil _ _ _,Nat.le_refl _,by simp[T.zero,maxLen],by simp[T.zero,maxLen]⟩
theorem TRep.parts{w:World}{P:Nat→Prop}{t:T}{c0 c1 c2:Value}(h:TRep w P t (.agg #[c0,c1,c2])):
  ∃(fa:Option Addr) (fc:Nat),c0=.string t.name∧c1=.string t.key∧c2=.slice fa t.fields.length fc∧aC6 w P t.fields fa∧t.fields.length≤fc∧t.name.size≤maxLen∧t.key.size≤maxLen:=by
 obtain⟨fa,fc,hv,h2,h3,h4,h5⟩:=h
 simp only[Value.agg.injEq,Array.mk.injEq,List.cons.injEq,and_true] at hv
 exact⟨fa,fc,hv.1,hv.2.1,hv.2.2,h2,h3,h4,h5⟩
theorem aBQ{w:World}(cs:Array Value)(T:TypeId)(i:Nat)(hi:i<cs.size):(w.alloc (.cells cs T)).cell? ⟨w.heap.size,i,none⟩=some cs[i]:=by
 rw[cell_of_row (w.alloc (.cells cs T)) w.heap.size i cs T (0,0) (heap_alloc_new w _)]
 simp[hi]
set_option maxHeartbeats 800000 in
theorem aHU(p:Pt)(w:World)(B:Nat)(v:Value)(s:ByteArray)(hR:PRep w (·<B) p v)(hB:B≤w.heap.size):
  Calls Tryz.prog 72 #[v,.string s] w fun e w'=>∃(nm ky:ByteArray) (fa:Option Addr) (fl fc:Nat),e=.returned (.tuple #[.agg #[.string nm,.string ky,.slice fa fl fc],.bool (decide (0≤aCD p s))])∧Below w.heap.size w w'∧
   TRep w' (·<B) (aAY p s) (.agg #[.string nm,.string ky,.slice fa fl fc]):=by
 obtain⟨name,types⟩:=p
 obtain⟨ta,tc,rfl,hK,hnc,hn⟩:=hR
 simp only at hK hnc hn
 have h3:=hK.1
 obtain⟨-,C,hA,hr⟩:=hK
 go_enter Tryz.func72,Tryz.ntmps72
 go_wp2_with fail
 go_loopw [11] (fun i wr=>∃k:Nat,k≤types.length∧i=.int .i64 k∧Below (w.heap.size+1+1) ((w.alloc (.cells #[.string name,.slice ta types.length tc] 43)).alloc (.cells #[.string ByteArray.empty,.string ByteArray.empty,.slice none 0 0] 52)) wr∧∀j,j<k→((tth types j).name.toList==s.toList)=false) (fun i _=>types.length- (intOf i).toNat)
 case atStart=>exact⟨0,Nat.zero_le _,rfl,Below.refl _ _,fun j hj=>by omega⟩
 case round=>
  obtain⟨k,hk,rfl,hbel,hp⟩:=hrel
  have HP:Hid (∀j,j<k→((tth types j).name.toList==s.toList)=false):=hp
  clear hp
  have hz:=hbel.size
  simp at hz
  have hbw:Below w.heap.size w wr:=(aA5 w _ _).trans (hbel.mono (by omega))
  have hrow:wr.heap[w.heap.size+1]?=some (.cells #[.string ByteArray.empty,.string ByteArray.empty,.slice none 0 0] 52 (0,0)):=by
   rw[hbel.block _ (by omega)]
   have:=heap_alloc_new (w.alloc (.cells #[.string name,.slice ta types.length tc] 43)) (.cells #[.string ByteArray.empty,.string ByteArray.empty,.slice none 0 0] 52)
   simpa using this
  obtain⟨r0,f0⟩:=aA1 hrow 0 (by simp)
  obtain⟨r1,f1⟩:=aA1 hrow 1 (by simp)
  obtain⟨r2,f2⟩:=aA1 hrow 2 (by simp)
  simp at r0 r1 r2
  by_cases hlt:k<types.length
  ·obtain⟨b,off,rfl,hbB,hc⟩:=hA (by omega)
   have hck:∀j,j<3→wr.cell? ⟨b,off+k*3+j,none⟩=some (C k j):=fun j hj=>(hbw.cell (p:=⟨b,off+k*3+j,none⟩) (by show b<_;omega)).trans (hc k hlt j hj)
   have hrk:=hr k hlt
   have hkt:=hrk
   obtain⟨fa,fc,e0,e1,e2,hfs,hfc,hs1,hs2⟩:=hrk.parts
   have c0:wr.cell? ⟨b,off+k*3,none⟩=some (C k 0):=hck 0 (by omega)
   have c1:=hck 1 (by omega)
   have c2:=hck 2 (by omega)
   rw[e0] at c0 hkt
   rw[e1] at c1 hkt
   rw[e2] at c2 hkt
   clear hck hc hr hA e0 e1 e2
   cases he:((tth types k).name.toList==s.toList)
   ·go_wp2_with fail
    go_roundw
    case rel=>exact⟨k+1,by omega,by go_num,hbel.alloc (by omega) _,aJ5 HP.out he⟩
    case measure=>simp[intOf];omega
   ·have hix:aCD ⟨name,types⟩ s=(k:Int):=aC0 HP.out he hlt
    have hne1:w.heap.size+1≠wr.heap.size:=by omega
    have hne2:wr.heap.size≠w.heap.size+1:=by omega
    have HIX:Hid (aCD ⟨name,types⟩ s=(k:Int)):=hix
    clear hix
    have A0:∀o,(wr.alloc o).cell? ⟨w.heap.size+1,0,none⟩=some (.string ByteArray.empty):=fun o=>((aA2 wr o).cell (p:=⟨w.heap.size+1,0,none⟩) (by show w.heap.size+1<_;omega)).trans r0
    have A1:∀o,(wr.alloc o).cell? ⟨w.heap.size+1,1,none⟩=some (.string ByteArray.empty):=fun o=>((aA2 wr o).cell (p:=⟨w.heap.size+1,1,none⟩) (by show w.heap.size+1<_;omega)).trans r1
    have A2:∀o,(wr.alloc o).cell? ⟨w.heap.size+1,2,none⟩=some (.slice none 0 0):=fun o=>((aA2 wr o).cell (p:=⟨w.heap.size+1,2,none⟩) (by show w.heap.size+1<_;omega)).trans r2
    have AF:∀o i,(wr.alloc o).frozen? ⟨w.heap.size+1,i,none⟩=false:=fun o i=>((aA2 wr o).frozen (p:=⟨w.heap.size+1,i,none⟩) (by show w.heap.size+1<_;omega)).trans (frozen_of_row wr _ i _ _ hrow)
    go_wp2_with fail
    have hbf:Below w.heap.size w ((((wr.alloc (.cells #[.string (tth types k).name,.string (tth types k).key,.slice fa (tth types k).fields.length fc] 52)).setCell ⟨w.heap.size+1,0,none⟩ (.string (tth types k).name)).setCell ⟨w.heap.size+1,1,none⟩ (.string (tth types k).key)).setCell ⟨w.heap.size+1,2,none⟩ (.slice fa (tth types k).fields.length fc)):=
     (((hbw.alloc (by omega) _).setCell (by show w.heap.size≤w.heap.size+1;omega) _).setCell (by show w.heap.size≤w.heap.size+1;omega) _).setCell (by show w.heap.size≤w.heap.size+1;omega) _
    refine bodyPost_ret (v:=.tuple #[.agg #[.string (tth types k).name,.string (tth types k).key,.slice fa (tth types k).fields.length fc],.bool true]) ?res rfl ⟨(tth types k).name,(tth types k).key,fa,(tth types k).fields.length,fc,by rw[HIX.out];simp,hbf,?_⟩
    case res=>
     clear hbf hkt hfs hbw hbel HP
     simp[results,Tryz.results72,go_sem,A0,A1,A2,AF]
    rw[aAY,if_pos (by rw[HIX.out];omega),HIX.out]
    exact hkt.under (hbf.mono hB)
  ·have hix:aCD ⟨name,types⟩ s=-1:=aC5 ((show k=types.length by omega)▸HP.out)
   have HIX:Hid (aCD ⟨name,types⟩ s=-1):=hix
   clear hix
   go_wp2_with fail
   refine bodyPost_ret (v:=.tuple #[.agg #[.string ByteArray.empty,.string ByteArray.empty,.slice none 0 0],.bool false]) ?res rfl ⟨ByteArray.empty,ByteArray.empty,none,0,0,by rw[HIX.out];simp,((hbw.setCell (by show w.heap.size≤w.heap.size+1;omega) _).setCell (by show w.heap.size≤w.heap.size+1;omega) _).setCell (by show w.heap.size≤w.heap.size+1;omega) _,?_⟩
   case res=>
    clear hbw hbel HP hA hr
    simp[results,Tryz.results72,go_sem,r0,r1,r2]
    rfl
   rw[aAY,if_neg (by rw[HIX.out];omega)]
   exact TRep.zero _ _
def aBU(t:T)(s:ByteArray):F:=if 0≤aAC t s then fth t.fields (aAC t s).toNat else F.zero
theorem FRep.zero(w:World)(P:Nat→Prop):FRep w P F.zero (.agg #[.string ByteArray.empty,.string ByteArray.empty,.bool false,.bool false,.bool false,.bool false,.bool false,.slice none 0 0]):=
 ⟨none,0,rfl,⟨fun h=>absurd rfl h,fun i=>by simp[F.zero,nth,maxLen],by simp[F.zero,maxLen]⟩,Nat.le_refl _,by simp[F.zero,maxLen],by simp[F.zero,maxLen],by simp[F.zero]⟩
set_option maxHeartbeats 1600000 in
theorem aDO(t:T)(w:World)(B:Nat)(v:Value)(s:ByteArray)(hR:TRep w (·<B) t v)(hB:B≤w.heap.size):
  Calls Tryz.prog 111 #[v,.string s] w fun e w'=>∃(nm of:ByteArray) (l m fr hi sh:Bool) (na:Option Addr) (nl nc:Nat),e=.returned (.tuple #[.agg #[.string nm,.string of,.bool l,.bool m,.bool fr,.bool hi,.bool sh,.slice na nl nc],.bool (decide (0≤aAC t s))])∧Below w.heap.size w w'∧
   FRep w' (·<B) (aBU t s) (.agg #[.string nm,.string of,.bool l,.bool m,.bool fr,.bool hi,.bool sh,.slice na nl nc]):=by
 obtain⟨name,key,fields⟩:=t
 obtain⟨ta,tc,rfl,hK,hnc,hn,hn2⟩:=hR
 simp only at hK hnc hn hn2
 have h3:=hK.1
 obtain⟨-,C,hA,hr⟩:=hK
 go_enter Tryz.func111,Tryz.ntmps111
 go_wp2_with fail
 go_loopw [11] (fun i wr=>∃k:Nat,k≤fields.length∧i=.int .i64 k∧Below (w.heap.size+1+1) ((w.alloc (.cells #[.string name,.string key,.slice ta fields.length tc] 52)).alloc (.cells #[.string ByteArray.empty,.string ByteArray.empty,.bool false,.bool false,.bool false,.bool false,.bool false,.slice none 0 0] 54)) wr∧∀j,j<k→((fth fields j).name.toList==s.toList)=false) (fun i _=>fields.length- (intOf i).toNat)
 case atStart=>exact⟨0,Nat.zero_le _,rfl,Below.refl _ _,fun j hj=>by omega⟩
 case round=>
  obtain⟨k,hk,rfl,hbel,hp⟩:=hrel
  have HP:Hid (∀j,j<k→((fth fields j).name.toList==s.toList)=false):=hp
  clear hp
  have hz:=hbel.size
  simp at hz
  have hbw:Below w.heap.size w wr:=(aA5 w _ _).trans (hbel.mono (by omega))
  have hrow:wr.heap[w.heap.size+1]?=some (.cells #[.string ByteArray.empty,.string ByteArray.empty,.bool false,.bool false,.bool false,.bool false,.bool false,.slice none 0 0] 54 (0,0)):=by
   rw[hbel.block _ (by omega)]
   have:=heap_alloc_new (w.alloc (.cells #[.string name,.string key,.slice ta fields.length tc] 52)) (.cells #[.string ByteArray.empty,.string ByteArray.empty,.bool false,.bool false,.bool false,.bool false,.bool false,.slice none 0 0] 54)
   simpa using this
  have r0:wr.cell? ⟨w.heap.size+1,0,none⟩=some (.string ByteArray.empty):=(aA1 hrow 0 (by simp)).1
  have r1:wr.cell? ⟨w.heap.size+1,1,none⟩=some (.string ByteArray.empty):=(aA1 hrow 1 (by simp)).1
  have r2:wr.cell? ⟨w.heap.size+1,2,none⟩=some (.bool false):=(aA1 hrow 2 (by simp)).1
  have r3:wr.cell? ⟨w.heap.size+1,3,none⟩=some (.bool false):=(aA1 hrow 3 (by simp)).1
  have r4:wr.cell? ⟨w.heap.size+1,4,none⟩=some (.bool false):=(aA1 hrow 4 (by simp)).1
  have r5:wr.cell? ⟨w.heap.size+1,5,none⟩=some (.bool false):=(aA1 hrow 5 (by simp)).1
  have r6:wr.cell? ⟨w.heap.size+1,6,none⟩=some (.bool false):=(aA1 hrow 6 (by simp)).1
  have r7:wr.cell? ⟨w.heap.size+1,7,none⟩=some (.slice none 0 0):=(aA1 hrow 7 (by simp)).1
  have rf:∀i,wr.frozen? ⟨w.heap.size+1,i,none⟩=false:=fun i=>frozen_of_row wr _ i _ _ hrow
  by_cases hlt:k<fields.length
  ·obtain⟨b,off,rfl,hbB,hc⟩:=hA (by omega)
   have hck:∀j,j<8→wr.cell? ⟨b,off+k*8+j,none⟩=some (C k j):=fun j hj=>(hbw.cell (p:=⟨b,off+k*8+j,none⟩) (by show b<_;omega)).trans (hc k hlt j hj)
   have hkt:=hr k hlt
   obtain⟨e0,e1,e2,e3,e4,e5,e6,na,nc,e7,-⟩:=(hr k hlt).parts
   have c0:wr.cell? ⟨b,off+k*8,none⟩=some (C k 0):=hck 0 (by omega)
   have c1:=hck 1 (by omega)
   have c2:=hck 2 (by omega)
   have c3:=hck 3 (by omega)
   have c4:=hck 4 (by omega)
   have c5:=hck 5 (by omega)
   have c6:=hck 6 (by omega)
   have c7:=hck 7 (by omega)
   rw[e0] at c0 hkt
   rw[e1] at c1 hkt
   rw[e2] at c2 hkt
   rw[e3] at c3 hkt
   rw[e4] at c4 hkt
   rw[e5] at c5 hkt
   rw[e6] at c6 hkt
   rw[e7] at c7 hkt
   clear hck hc hr hA e0 e1 e2 e3 e4 e5 e6 e7
   cases he:((fth fields k).name.toList==s.toList)
   ·go_wp2_with fail
    go_roundw
    case rel=>exact⟨k+1,by omega,by go_num,hbel.alloc (by omega) _,aJ5 HP.out he⟩
    case measure=>simp[intOf];omega
   ·have hix:aAC ⟨name,key,fields⟩ s=(k:Int):=aC0 HP.out he hlt
    have HIX:Hid (aAC ⟨name,key,fields⟩ s=(k:Int)):=hix
    clear hix
    have A0:∀o,(wr.alloc o).cell? ⟨w.heap.size+1,0,none⟩=some (.string ByteArray.empty):=fun o=>((aA2 wr o).cell (p:=⟨w.heap.size+1,0,none⟩) (by show w.heap.size+1<_;omega)).trans r0
    have A1:∀o,(wr.alloc o).cell? ⟨w.heap.size+1,1,none⟩=some (.string ByteArray.empty):=fun o=>((aA2 wr o).cell (p:=⟨w.heap.size+1,1,none⟩) (by show w.heap.size+1<_;omega)).trans r1
    have A2:∀o,(wr.alloc o).cell? ⟨w.heap.size+1,2,none⟩=some (.bool false):=fun o=>((aA2 wr o).cell (p:=⟨w.heap.size+1,2,none⟩) (by show w.heap.size+1<_;omega)).trans r2
    have A3:∀o,(wr.alloc o).cell? ⟨w.heap.size+1,3,none⟩=some (.bool false):=fun o=>((aA2 wr o).cell (p:=⟨w.heap.size+1,3,none⟩) (by show w.heap.size+1<_;omega)).trans r3
    have A4:∀o,(wr.alloc o).cell? ⟨w.heap.size+1,4,none⟩=some (.bool false):=fun o=>((aA2 wr o).cell (p:=⟨w.heap.size+1,4,none⟩) (by show w.heap.size+1<_;omega)).trans r4
    have A5:∀o,(wr.alloc o).cell? ⟨w.heap.size+1,5,none⟩=some (.bool false):=fun o=>((aA2 wr o).cell (p:=⟨w.heap.size+1,5,none⟩) (by show w.heap.size+1<_;omega)).trans r5
    have A6:∀o,(wr.alloc o).cell? ⟨w.heap.size+1,6,none⟩=some (.bool false):=fun o=>((aA2 wr o).cell (p:=⟨w.heap.size+1,6,none⟩) (by show w.heap.size+1<_;omega)).trans r6
    have A7:∀o,(wr.alloc o).cell? ⟨w.heap.size+1,7,none⟩=some (.slice none 0 0):=fun o=>((aA2 wr o).cell (p:=⟨w.heap.size+1,7,none⟩) (by show w.heap.size+1<_;omega)).trans r7
    have AF:∀o i,(wr.alloc o).frozen? ⟨w.heap.size+1,i,none⟩=false:=fun o i=>((aA2 wr o).frozen (p:=⟨w.heap.size+1,i,none⟩) (by show w.heap.size+1<_;omega)).trans (rf i)
    go_wp2_with fail
    have hbf:Below w.heap.size w (((((((((wr.alloc (.cells #[.string (fth fields k).name,.string (fth fields k).of,.bool (fth fields k).list,.bool (fth fields k).must,.bool (fth fields k).far,.bool (fth fields k).hidden,.bool (fth fields k).shared,.slice na (fth fields k).needs.length nc] 54)).setCell ⟨w.heap.size+1,0,none⟩ (.string (fth fields k).name)).setCell ⟨w.heap.size+1,1,none⟩ (.string (fth fields k).of)).setCell ⟨w.heap.size+1,2,none⟩ (.bool (fth fields k).list)).setCell ⟨w.heap.size+1,3,none⟩ (.bool (fth fields k).must)).setCell ⟨w.heap.size+1,4,none⟩ (.bool (fth fields k).far)).setCell ⟨w.heap.size+1,5,none⟩ (.bool (fth fields k).hidden)).setCell ⟨w.heap.size+1,6,none⟩ (.bool (fth fields k).shared)).setCell ⟨w.heap.size+1,7,none⟩ (.slice na (fth fields k).needs.length nc)):=((((((((hbw.alloc (by omega) _).setCell (by show w.heap.size≤w.heap.size+1;omega) _).setCell (by show w.heap.size≤w.heap.size+1;omega) _).setCell (by show w.heap.size≤w.heap.size+1;omega) _).setCell (by show w.heap.size≤w.heap.size+1;omega) _).setCell (by show w.heap.size≤w.heap.size+1;omega) _).setCell (by show w.heap.size≤w.heap.size+1;omega) _).setCell (by show w.heap.size≤w.heap.size+1;omega) _).setCell (by show w.heap.size≤w.heap.size+1;omega) _
    refine bodyPost_ret (v:=.tuple #[.agg #[.string (fth fields k).name,.string (fth fields k).of,.bool (fth fields k).list,.bool (fth fields k).must,.bool (fth fields k).far,.bool (fth fields k).hidden,.bool (fth fields k).shared,.slice na (fth fields k).needs.length nc],.bool true]) ?res rfl ⟨(fth fields k).name,(fth fields k).of,(fth fields k).list,(fth fields k).must,(fth fields k).far,(fth fields k).hidden,(fth fields k).shared,na,(fth fields k).needs.length,nc,by rw[HIX.out];simp,hbf,?_⟩
    case res=>
     clear hbf hkt hbw hbel HP
     simp[results,Tryz.results111,go_sem,A0,A1,A2,A3,A4,A5,A6,A7,AF]
    rw[aBU,if_pos (by rw[HIX.out];omega),HIX.out]
    exact hkt.under (hbf.mono hB)
  ·have hix:aAC ⟨name,key,fields⟩ s=-1:=aC5 ((show k=fields.length by omega)▸HP.out)
   have HIX:Hid (aAC ⟨name,key,fields⟩ s=-1):=hix
   clear hix
   go_wp2_with fail
   refine bodyPost_ret (v:=.tuple #[.agg #[.string ByteArray.empty,.string ByteArray.empty,.bool false,.bool false,.bool false,.bool false,.bool false,.slice none 0 0],.bool false]) ?res rfl ⟨ByteArray.empty,ByteArray.empty,false,false,false,false,false,none,0,0,by rw[HIX.out];simp,((((((((hbw).setCell (by show w.heap.size≤w.heap.size+1;omega) _).setCell (by show w.heap.size≤w.heap.size+1;omega) _).setCell (by show w.heap.size≤w.heap.size+1;omega) _).setCell (by show w.heap.size≤w.heap.size+1;omega) _).setCell (by show w.heap.size≤w.heap.size+1;omega) _).setCell (by show w.heap.size≤w.heap.size+1;omega) _).setCell (by show w.heap.size≤w.heap.size+1;omega) _).setCell (by show w.heap.size≤w.heap.size+1;omega) _,?_⟩
   case res=>
    clear hbw hbel HP hA hr
    simp[results,Tryz.results111,go_sem,r0,r1,r2,r3,r4,r5,r6,r7]
    rfl
   rw[aBU,if_neg (by rw[HIX.out];omega)]
   exact FRep.zero _ _
end Go.Proofs.YtokmgbidmnanpaaGreatDoor
namespace Go.Proofs.YtokmgbidmnanpaaGreatDoor
open Go.RowKit Go.Maps
structure Only(O:Nat→Prop)(w w':World):Prop where
 os:w'.os=w.os
 tape:w'.tape=w.tape
 output:w'.output=w.output
 size:w.heap.size≤w'.heap.size
 block:∀b,b<w.heap.size→¬O b→w'.heap[b]?=w.heap[b]?
theorem Only.refl(O:Nat→Prop)(w:World):Only O w w:=⟨rfl,rfl,rfl,Nat.le_refl _,fun _ _ _=>rfl⟩
theorem Only.trans{O O':Nat→Prop}{a b c:World}(h:Only O a b)(k:Only O' b c)(hO:∀x,x<a.heap.size→O' x→O x):Only O a c:=
 ⟨k.os.trans h.os,k.tape.trans h.tape,k.output.trans h.output,Nat.le_trans h.size k.size,fun x hx hn=>(k.block x (Nat.lt_of_lt_of_le hx h.size) fun q=>hn (hO x hx q)).trans (h.block x hx hn)⟩
theorem Only.of_below{w w':World}(O:Nat→Prop)(h:Below w.heap.size w w'):Only O w w':=⟨h.os,h.tape,h.output,h.size,fun b hb _=>h.block b hb⟩
theorem Only.below{O:Nat→Prop}{w w':World}{B:Nat}(h:Only O w w')(hB:B≤w.heap.size)(hO:∀b,b<B→¬O b):Below B w w':=⟨h.os,h.tape,h.output,h.size,fun b hb=>h.block b (Nat.lt_of_lt_of_le hb hB) (hO b hb)⟩
theorem Only.imp{O O':Nat→Prop}{w w':World}(h:Only O w w')(hO:∀b,b<w.heap.size→O b→O' b):Only O' w w':=⟨h.os,h.tape,h.output,h.size,fun b hb hn=>h.block b hb fun q=>hn (hO b hb q)⟩
theorem Only.set{O:Nat→Prop}{a w:World}(h:Only O a w)(N i:Nat)(hN:O N∨a.heap.size≤N)(v:Value):Only O a (w.setCell ⟨N,i,none⟩ v):=
 ⟨h.os,h.tape,h.output,by rw[aAZ];exact h.size,fun b hb hn=>(Below.heap_setCell _ _ _ _ (fun e=>by subst e;rcases hN with q| q;exact hn q;omega)).trans (h.block b hb hn)⟩
theorem Only.alloc{O:Nat→Prop}{a w:World}(h:Only O a w)(o:Obj):Only O a (w.alloc o):=h.trans (Only.of_below O (aA2 w o)) fun _ _ q=>q
theorem Only.grown{O:Nat→Prop}{a w w':World}{row:Option Nat}(h:Only O a w)(hg:w.grownBy w' row)(hr:∀k,row=some k→O k∨a.heap.size≤k):Only O a w':=
 ⟨hg.os.trans h.os,hg.tape.trans h.tape,hg.output.trans h.output,Nat.le_trans h.size hg.size,fun b hb hn=>(hg.block b (Nat.lt_of_lt_of_le hb h.size) (fun e=>by rcases hr b e.symm with q| q;exact hn q;omega)).trans (h.block b hb hn)⟩
def RdOk(w:World)(rb cb q:Nat):Prop:=∃(p n bc:Nat) (ba:Option Addr) (off:Nat),p≤q∧n≤2000∧rb≠cb∧w.heap[rb]?=some (.cells #[.slice ba n bc,.int .i64 p] 134 (0,0))∧cb<w.heap.size∧(0<n→ba=some ⟨cb,off,none⟩)∧∀i,i<n→∃x:Nat,x<256∧w.cell? ⟨cb,off+i,none⟩=some (.int .u8 x)
theorem RdOk.keep{w w':World}{rb cb q:Nat}(h:RdOk w rb cb q)(h1:w'.heap[rb]?=w.heap[rb]?)(h2:w'.heap[cb]?=w.heap[cb]?)(hs:w.heap.size≤w'.heap.size):RdOk w' rb cb q:=by
 obtain⟨p,n,bc,ba,off,a1,a2,a3,a4,a5,a6,a7⟩:=h
 exact⟨p,n,bc,ba,off,a1,a2,a3,h1.trans a4,by omega,a6,fun i hi=>by obtain⟨x,hx,hc⟩:=a7 i hi;exact⟨x,hx,(World.cell?_of_block (a:=⟨cb,off+i,none⟩) h2).trans hc⟩⟩
theorem RdOk.lt{w:World}{rb cb q:Nat}(h:RdOk w rb cb q):rb<w.heap.size∧cb<w.heap.size∧rb≠cb:=by
 obtain⟨p,n,bc,ba,off,a1,a2,a3,a4,a5,a6,a7⟩:=h
 exact⟨(Array.getElem?_eq_some_iff.1 a4).1,a5,a3⟩
theorem RdOk.only{O:Nat→Prop}{w w':World}{rb cb q:Nat}(h:RdOk w rb cb q)(ho:Only O w w')(h1:¬O rb)(h2:¬O cb):RdOk w' rb cb q:=
 h.keep (ho.block _ h.lt.1 h1) (ho.block _ h.lt.2.1 h2) ho.size
theorem RdOk.le{w:World}{rb cb q q':Nat}(h:RdOk w rb cb q)(hq:q≤q'):RdOk w rb cb q':=by
 obtain⟨p,n,bc,ba,off,a1,a⟩:=h
 exact⟨p,n,bc,ba,off,by omega,a⟩
end Go.Proofs.YtokmgbidmnanpaaGreatDoor
namespace Go.Proofs.YtokmgbidmnanpaaGreatDoor
open Go.RowKit
def aF2(t:T)(f:F):Bool:=isT f.of [105,110,116]&&!f.list&&!f.far&&!f.must&&!t.key.toList.isEmpty&&!(f.name.toList==t.key.toList)
def aEA(g:F):Bool:=!decide (0<(g.needs.length:Int))&&isT g.of [105,110,116]&&!g.list
def aDE(t:T)(f:F)(i:Nat):Bool:=decide (0≤aAC t (nth f.needs i))&&aEA (fth t.fields (aAC t (nth f.needs i)).toNat)&&(i==0||Op.bytesLess (nth f.needs (i- 1)).toList (nth f.needs i).toList)
def aF8(t:T)(f:F)(n:Nat):Bool:=(List.range n).all fun i=>aDE t f i
theorem aG7(t:T)(f:F)(n:Nat):aF8 t f (n+1)=(aF8 t f n&&aDE t f n):=by simp[aF8,List.range_succ]
theorem aMY(t:T)(f:F)(n k:Nat)(hk:k<n)(h:aDE t f k=false):aF8 t f n=false:=by
 rw[aF8,List.all_eq_false];exact⟨k,by simpa using hk,by simpa using h⟩
def aE5(t:T)(f:F):Bool:=(f.needs.isEmpty||aF2 t f)&&aF8 t f f.needs.length
set_option maxHeartbeats 1600000 in
theorem aMN(t:T)(f:F)(w:World)(v u:Value)(B:Nat)(hR:TRep w (·<B) t v)(hF:FRep w (·<B) f u)(hB:B≤w.heap.size)(h0:f.needs=[]):
  Calls Tryz.prog 121 #[v,u] w fun e w'=>e=.returned (.bool (aE5 t f))∧Below w.heap.size w w':=by
 obtain⟨tn,key,fields⟩:=t
 obtain⟨fa,fc,rfl,hK,-⟩:=hR
 obtain⟨na,nc,rfl,-⟩:=hF
 obtain⟨name,of,l,m,fr,hi,sh,needs⟩:=f
 simp only at h0
 subst h0
 go_enter Tryz.func121,Tryz.ntmps121
 go_wp2_with fail
 go_loop [5,6] (fun i _=>i=.int .i64 0) (fun _ _=>0)
 case atStart=>rfl
 case round=>
  subst hrel
  go_wp2_with fail
  go_ret
  exact⟨aA4 (by simp[aE5,aF8]),aA5 _ _ _⟩
set_option maxHeartbeats 1600000 in
theorem aMO(t:T)(f:F)(w:World)(v u:Value)(B:Nat)(hR:TRep w (·<B) t v)(hF:FRep w (·<B) f u)(hB:B≤w.heap.size)(h0:0<f.needs.length)(hh:aF2 t f=false):
  Calls Tryz.prog 121 #[v,u] w fun e w'=>e=.returned (.bool (aE5 t f))∧Below w.heap.size w w':=by
 have hb:Hid (aE5 t f=false):=by
  show _=_
  have:f.needs.isEmpty=false:=by cases h:f.needs with
   |nil=>simp[h] at h0
   |cons a b=>rfl
  simp only[aE5,this,hh];rfl
 obtain⟨tn,key,fields⟩:=t
 obtain⟨fa,fc,rfl,hK,-⟩:=hR
 obtain⟨na,nc,rfl,-⟩:=hF
 obtain⟨name,of,l,m,fr,hi,sh,needs⟩:=f
 simp only at h0
 have h0':(0:Int)<(needs.length:Int):=by omega
 simp only[aF2,isT] at hh
 cases h1:(of.toList==[105,110,116])
 case false=>
  clear hh
  go_enter Tryz.func121,Tryz.ntmps121
  go_wp2_with fail
  go_ret
  exact⟨aA4 hb.out.symm,aA5 _ _ _⟩
 cases l
 case true=>
  clear hh
  go_enter Tryz.func121,Tryz.ntmps121
  go_wp2_with fail
  go_ret
  exact⟨aA4 hb.out.symm,aA5 _ _ _⟩
 cases fr
 case true=>
  clear hh
  go_enter Tryz.func121,Tryz.ntmps121
  go_wp2_with fail
  go_ret
  exact⟨aA4 hb.out.symm,aA5 _ _ _⟩
 cases m
 case true=>
  clear hh
  go_enter Tryz.func121,Tryz.ntmps121
  go_wp2_with fail
  go_ret
  exact⟨aA4 hb.out.symm,aA5 _ _ _⟩
 cases h2:key.toList.isEmpty
 case true=>
  clear hh
  go_enter Tryz.func121,Tryz.ntmps121
  go_wp2_with fail
  go_ret
  exact⟨aA4 hb.out.symm,aA5 _ _ _⟩
 have h3:(name.toList==key.toList)=true:=by
  rw[h1,h2] at hh;simpa using hh
 clear hh
 go_enter Tryz.func121,Tryz.ntmps121
 go_wp2_with fail
 go_ret
 exact⟨aA4 hb.out.symm,aA5 _ _ _⟩
end Go.Proofs.YtokmgbidmnanpaaGreatDoor
namespace Go.Proofs.YtokmgbidmnanpaaGreatDoor
open Go.RowKit
theorem FitS.le:∀{f g:Nat} {ks:List Se},FitS f ks→f≤g→FitS g ks
 |0,0,ks,h,_=>h
 |0,g+1,ks,h,_=>by
  have e:ks=[]:=h
  subst e
  exact fun i hi=>by simp at hi
 |f+1,0,ks,h,hg=>by omega
 |f+1,g+1,ks,h,hg=>fun i hi=>(h i hi).le (by omega)
theorem aLF(f:Nat)(ks:List Se):∀(n i:Nat),i<n→aNV f (sth ks i)≤aBX f ks n
 |0,i,h=>by omega
 |n+1,i,h=>by
  rw[aBN]
  by_cases e:i=n
  ·subst e;omega
  ·have:=aLF f ks n i (by omega)
   omega
theorem FitS.few:∀(f:Nat) {ks:List Se},FitS f ks→∀m,aBX f ks ks.length≤m→FitS m ks
 |0,ks,h,m,hm=>h.le (Nat.zero_le _)
 |f+1,ks,h,m,hm=>by
  cases m with
  |zero=>
   cases ks with
   |nil=>rfl
   |cons a l=>
    have:=aLF (f+1) (a::l) (a::l).length 0 (by simp)
    rw[aBD] at this
    omega
  |succ m=>
   intro i hi
   have:=aLF (f+1) ks ks.length i hi
   rw[aBD] at this
   exact FitS.few f (h i hi) m (by omega)
end Go.Proofs.YtokmgbidmnanpaaGreatDoor
namespace Go.Proofs.YtokmgbidmnanpaaGreatDoor
open Go.RowKit
theorem aGY:∀{f:Nat} {ks:List Se} (g n:Nat),FitS f ks→f≤g→n≤ks.length→aCY g ks n=aCY f ks n
 |0,ks,g,n,h,_,hn=>by
  have e:ks=[]:=h
  subst e
  have:n=0:=by simpa using hn
  subst this
  cases g<;>simp[aCY]
 |f+1,ks,g,0,h,hg,hn=>by cases g<;>simp[aCY]
 |f+1,ks,0,n+1,h,hg,hn=>by omega
 |f+1,ks,g+1,n+1,h,hg,hn=>by
  rw[aDQ,aDQ,aGY (g+1) n h hg (by omega),aGY g _ (h n (by omega)) (by omega) (Nat.le_refl _)]
theorem aSZ{f g:Nat}{ks:List Se}(hf:FitS f ks)(hg:FitS g ks):txtL f ks=txtL g ks:=by
 unfold txtL
 rcases Nat.le_total f g with h| h
 ·rw[aGY g _ hf h (Nat.le_refl _)]
 ·rw[aGY f _ hg h (Nat.le_refl _)]
theorem aN0:∀(f:Nat) (ks:List Se) (d n:Nat),d≤n→∃t,aCY f ks n=aCY f ks d++t
 |0,ks,d,n,h=>⟨[],by simp[aCY]⟩
 |f+1,ks,d,0,h=>by
  have e:d=0:=by omega
  subst e
  exact⟨[],by simp⟩
 |f+1,ks,d,n+1,h=>by
  by_cases e:d=n+1
  ·subst e;exact⟨[],by simp⟩
  ·obtain⟨t,ht⟩:=aN0 (f+1) ks d n (by omega)
   exact⟨_,by rw[aDQ,ht,List.append_assoc]⟩
def aC7(f:Nat)(ks:List Se)(d:Nat):List UInt8:=(aCY f ks ks.length).drop (aCY f ks d).length++[125]
theorem aIM(f:Nat)(ks:List Se)(d:Nat)(h:d≤ks.length):aCY f ks d++aC7 f ks d=aCY f ks ks.length++[125]:=by
 obtain⟨t,ht⟩:=aN0 f ks d _ h
 unfold aC7
 rw[ht,List.drop_left,List.append_assoc]
theorem aKX(f:Nat)(ks:List Se):aC7 f ks ks.length=[125]:=by simp[aC7]
theorem aFK(f:Nat)(ks:List Se):123::aC7 f ks 0=txtL f ks:=by
 have h:=aIM f ks 0 (Nat.zero_le _)
 have e:aCY f ks 0=[]:=by cases f<;>simp[aCY]
 rw[e,List.nil_append] at h
 rw[h];rfl
theorem aOA(f:Nat)(ks:List Se)(d:Nat)(h:d<ks.length):
  aC7 (f+1) ks d=((if d=0 then[] else[44])++aHM (sth ks d))++((if(sth ks d).kids.isEmpty=true then[] else txtL f (sth ks d).kids)++aC7 (f+1) ks (d+1)):=by
 have h1:=aIM (f+1) ks d (by omega)
 have h2:=aIM (f+1) ks (d+1) (by omega)
 rw[←h2,aDQ,List.append_assoc,List.append_cancel_left_eq] at h1
 unfold txtL
 rw[h1]
 simp only[List.append_assoc]
structure Op where
 b:Nat
 o:Nat
 c:Nat
 f:Nat
 g:Nat
 ks:List Se
 d:Nat
 x:Nat
def Op.cells(p:Op):List Value:=[.slice (some ⟨p.b,p.o,none⟩) p.ks.length p.c,.int .i64 p.d,.int .i64 p.x]
def aF6:List Op→List UInt8
 |[]=>[]
 |p::r=>aC7 p.f p.ks p.d++aF6 r
theorem aN9:∀r:List Op,r.length≤(aF6 r).length
 |[]=>by simp[aF6]
 |p::r=>by
  have:=aN9 r
  simp only[aF6,aC7,List.length_append,List.length_cons,List.length_nil]
  omega
def aFU(T:List UInt8):List UInt8→List Op→Prop
 |_,[]=>True
 |acc,p::r=>p.x≤T.length∧p.d≤p.ks.length∧T.drop p.x++(acc++aC7 p.f p.ks p.d)=txtL p.f p.ks∧aFU T (acc++aC7 p.f p.ks p.d) r
theorem aFU.next{T x:List UInt8}:∀{r:List Op} {acc acc':List UInt8},aFU T acc r→acc=x++acc'→aFU (T++x) acc' r
 |[],_,_,_,_=>trivial
 |p::r,acc,acc',h,e=>by
  obtain⟨h1,h2,h3,h4⟩:=h
  subst e
  refine⟨by simp;omega,h2,?_,aFU.next h4 (by rw[List.append_assoc])⟩
  rw[←h3,List.drop_append_of_le_length h1]
  simp
theorem aFU.step{T x:List UInt8}{p:Op}{r:List Op}(h:aFU T [] (p::r)){d:Nat}(hd:d≤p.ks.length)(e:aC7 p.f p.ks p.d=x++aC7 p.f p.ks d):aFU (T++x) [] ({ p with d:=d }::r):=by
 obtain⟨h1,h2,h3,h4⟩:=h
 refine⟨by simp;omega,hd,?_,?_⟩
 ·rw[←h3,List.drop_append_of_le_length h1,List.nil_append,List.nil_append,e]
  simp
 ·exact h4.next (by rw[List.nil_append,e,List.nil_append])
theorem aFU.push{T x:List UInt8}{p q:Op}{r:List Op}(h:aFU T [] (p::r)){d:Nat}(hd:d≤p.ks.length)(e:aC7 p.f p.ks p.d=x++(txtL q.f q.ks++aC7 p.f p.ks d))(hq:q.d=0)(hx:q.x=(T++x).length):
  aFU (T++x++[123]) [] (q::{ p with d:=d }::r):=by
 obtain⟨h1,h2,h3,h4⟩:=h
 have hall:=aFK q.f q.ks
 have e2:aC7 p.f p.ks p.d=(x++[123])++(aC7 q.f q.ks q.d++aC7 p.f p.ks d):=by
  rw[e,←hall,hq];simp
 refine⟨by rw[hx];simp,by rw[hq];omega,?_,by simp;omega,hd,?_,?_⟩
 ·rw[hx,List.drop_append_of_le_length (by simp),List.drop_length,hq,←hall];rfl
 ·rw[←h3,List.append_assoc,List.drop_append_of_le_length h1,List.nil_append,List.nil_append,e2]
  simp
 ·rw[List.append_assoc]
  exact h4.next (by rw[List.nil_append,e2,List.nil_append])
theorem aFU.pop{T:List UInt8}{p:Op}{r:List Op}(h:aFU T [] (p::r))(hd:p.d=p.ks.length):aFU (T++[125]) [] r∧(T++[125]).drop p.x=txtL p.f p.ks∧p.x≤T.length:=by
 obtain⟨h1,h2,h3,h4⟩:=h
 rw[hd,aKX] at h3 h4
 refine⟨h4.next (by simp),?_,h1⟩
 rw[←h3,List.drop_append_of_le_length h1];rfl
theorem aRV{w:World}{P Q:Nat→Prop}:∀(f:Nat) {x y:Se} {v:Value},SeN w P f x v→aDZ w Q y v→x=y
 |0,_,_,_,h,_=>h.elim
 |f+1,x,y,v,h,h'=>by
  obtain⟨s,n,o,id,ks⟩:=x
  obtain⟨s',n',o',id',ks'⟩:=y
  obtain⟨ka,kc,C,h1,-,-,-,h5,h6⟩:=h
  obtain⟨ka',kc',g1,-,-,-,C',g5,g6⟩:=h'.inv
  rw[h1] at g1
  simp only[Value.agg.injEq,Array.mk.injEq,List.cons.injEq,and_true,Value.int.injEq,true_and,Value.string.injEq,Value.slice.injEq,Value.bool.injEq] at g1
  obtain⟨rfl,rfl,rfl,rfl,rfl,e2,rfl⟩:=g1
  simp only at e2 h5 h6
  have hks:ks=ks':=by
   by_cases hn:ks=[]
   ·subst hn
    exact(List.length_eq_zero_iff.1 e2.symm).symm
   ·have hl:0<ks.length:=List.length_pos_iff.2 hn
    obtain⟨b,off,rfl,-,hc⟩:=h5 hl
    obtain⟨b',off',e',-,hc'⟩:=g5 (by omega)
    simp only[Option.some.injEq,Addr.mk.injEq,and_true] at e'
    obtain⟨rfl,rfl⟩:=e'
    apply List.ext_getElem e2
    intro i hi hi'
    have hC:∀j,j<5→C i j=C' i j:=fun j hj=>Option.some.inj ((hc i hi j hj).symm.trans (hc' i hi' j hj))
    have r1:=h6 i hi
    have r2:=g6 i hi'
    rw[←hC 0 (by omega),←hC 1 (by omega),←hC 2 (by omega),←hC 3 (by omega),←hC 4 (by omega)] at r2
    have:=aRV f r1 r2
    simpa[sth,List.getD_eq_getElem?_getD,List.getElem?_eq_getElem hi,List.getElem?_eq_getElem hi'] using this
  rw[hks]
theorem aPW{w:World}{P Q:Nat→Prop}{a c:List Se}{A:Option Addr}(h:aAA w P a A)(h':aAA w Q c A)(hl:a.length=c.length):a=c:=by
 obtain⟨-,C,h5,h6⟩:=h
 obtain⟨-,C',g5,g6⟩:=h'
 by_cases hn:a=[]
 ·subst hn
  exact(List.length_eq_zero_iff.1 hl.symm).symm
 ·have hp:0<a.length:=List.length_pos_iff.2 hn
  obtain⟨b,off,rfl,-,hc⟩:=h5 hp
  obtain⟨b',off',e',-,hc'⟩:=g5 (by omega)
  simp only[Option.some.injEq,Addr.mk.injEq,and_true] at e'
  obtain⟨rfl,rfl⟩:=e'
  apply List.ext_getElem hl
  intro i hi hi'
  have hC:∀j,j<5→C i j=C' i j:=fun j hj=>Option.some.inj ((hc i hi j hj).symm.trans (hc' i hi' j hj))
  obtain⟨f,r1⟩:=h6 i hi
  have r2:=g6 i hi'
  rw[←hC 0 (by omega),←hC 1 (by omega),←hC 2 (by omega),←hC 3 (by omega),←hC 4 (by omega)] at r2
  have:=aRV f r1 r2
  simpa[sth,List.getD_eq_getElem?_getD,List.getElem?_eq_getElem hi,List.getElem?_eq_getElem hi'] using this
theorem aRN{f d:Nat}{ks:List Se}:∀{n i:Nat},okTo (f+1) d ks n=true→i<n→selB (sth ks i)=true∧okTo f (d+1) (sth ks i).kids (sth ks i).kids.length=true
 |0,i,_,h=>by omega
 |n+1,i,h,hi=>by
  rw[aD9,Bool.and_eq_true] at h
  by_cases e:i=n
  ·subst e
   simp only[Bool.and_eq_true] at h
   exact⟨h.2.1.1,h.2.2.2⟩
  ·exact aRN h.1 (by omega)
theorem aRM{s:Se}(h:selB s=true):0<(aHM s).length:=by
 simp only[selB,Bool.and_eq_true] at h
 have h1:=h.1.1.1
 simp only[aAO,aE3,Bool.and_eq_true,decide_eq_true_eq] at h1
 have h2:1≤s.name.size:=h1.1.1.1.1.1.1.1.1.1.1.1.1.1
 have h3:=aC3 s.name
 unfold aHM
 rw[List.length_append,List.length_append]
 omega
end Go.Proofs.YtokmgbidmnanpaaGreatDoor
