import Derived.Test.YtokmgbidmnanpaaGreatDoorQ35
import Derived.Test.YtokmgbidmnanpaaGreatDoorQ22
import Derived.Test.YtokmgbidmnanpaaGreatDoorQ28
import Derived.Test.YtokmgbidmnanpaaGreatDoorQ32
set_option linter.unusedSimpArgs false
set_option linter.unusedVariables false
namespace Go.Proofs.YtokmgbidmnanpaaGreatDoor
open Go.RowKit
def aB0(fs:List F):Nat→List UInt8
 |0=>[]
 |n+1=>aB0 fs n++(aGK (fth fs n)).data.toList
def keyL(t:T):List UInt8:=if t.key.toList.isEmpty=true then[] else[32,107,101,121,32]++t.key.data.toList
def aB6(t:T):List UInt8:=[116,121,112,101,32]++t.name.data.toList++keyL t++[10]
def aAX(ts:List T):Nat→List UInt8
 |0=>[]
 |n+1=>aAX ts n++(aB6 (tth ts n)++aB0 (tth ts n).fields (tth ts n).fields.length)
def aAK(p:Pt):List UInt8:=[112,97,114,116,32]++p.name.data.toList++[10]
def aCS(p:Pt):List UInt8:=aAK p++aAX p.types p.types.length
theorem aEM(fs:List F)(k:Nat):∀n,k≤n→(aB0 fs k).length≤(aB0 fs n).length
 |0,h=>by rw[show k=0 by omega];exact Nat.le_refl _
 |n+1,h=>by
  by_cases e:k=n+1
  ·rw[e];exact Nat.le_refl _
  ·have:=aEM fs k n (by omega);rw[aB0,List.length_append];omega
theorem aIL(ts:List T)(k:Nat):∀n,k≤n→(aAX ts k).length≤(aAX ts n).length
 |0,h=>by rw[show k=0 by omega];exact Nat.le_refl _
 |n+1,h=>by
  by_cases e:k=n+1
  ·rw[e];exact Nat.le_refl _
  ·have:=aIL ts k n (by omega);rw[aAX,List.length_append];omega
theorem Bld.fresh(w:World)(N:Nat)(hN:w.heap.size=N):Bld N N [] (w.alloc (.cells #[.pointer none,.slice none 0 0] 122)):=by
 subst hN
 exact Or.inl ⟨Nat.le_refl _,.slice none 0 0,heap_alloc_new w _,⟨rfl,Or.inl ⟨rfl,rfl⟩⟩,by simp[Value.ownBlock]⟩
theorem aRX(g:Nat→Nat)(k:Nat):∀n,k<n→g k≤((List.range n).map g).sum
 |0,h=>by omega
 |n+1,h=>by
  rw[List.range_succ,List.map_append,List.sum_append]
  by_cases e:k=n
  ·subst e;simp
  ·have:=aRX g k n (by omega);omega
theorem aRA(p:Pt)(k:Nat)(h:k<p.types.length)(hz:szP p≤1048576):szT (tth p.types k)≤1048576:=by
 have h1:=aRX (fun i=>szT (tth p.types i)) k _ h
 have h2:p.name.size+(p.types.length+aBT p.types p.types.length)≤1048576:=hz
 have h3:aBT p.types p.types.length=((List.range p.types.length).map fun i=>szT (tth p.types i)).sum:=rfl
 omega
theorem aMG(t:T)(k:Nat)(h:k<t.fields.length)(hz:szT t≤1048576):szF (fth t.fields k)≤1048576:=by
 have h1:=aRX (fun i=>szF (fth t.fields i)) k _ h
 have h2:t.name.size+t.key.size+(t.fields.length+aBY t.fields t.fields.length)≤1048576:=hz
 have h3:aBY t.fields t.fields.length=((List.range t.fields.length).map fun i=>szF (fth t.fields i)).sum:=rfl
 omega
theorem tl(a:ByteArray):a.data.toList.length=a.size:=Array.length_toList
set_option maxHeartbeats 3200000 in
theorem aMH(p:Pt)(w:World)(B:Nat)(v:Value)(hP:PRep w (·<B) p v)(hB:B≤w.heap.size)(hz:szP p≤1048576)(hl:(aCS p).length≤70368744177664):
  Calls Tryz.prog 75 #[v] w fun e w'=>e=.returned (.string ⟨(aCS p).toArray⟩)∧Below w.heap.size w w':=by
 obtain⟨pname,types⟩:=p
 obtain⟨ta,tc,rfl,hK,hnc,hpn⟩:=hP
 simp only at hK hnc hpn
 have h56:=hK.1
 have hl2:(aAK ⟨pname,types⟩).length+(aAX types types.length).length≤70368744177664:=by rw[←List.length_append];exact hl
 have hpz:pname.size≤1048576:=by have:pname.size+szTs types≤1048576:=hz;omega
 have HP0:Hid (aCS ⟨pname,types⟩=aAK ⟨pname,types⟩++aAX types types.length):=rfl
 have HH:Hid ((⟨#[112,97,114,116,32]⟩++pname++⟨#[10]⟩:ByteArray).data.toList=aAK ⟨pname,types⟩):=by show _=_;rw[aA8,aA8];rfl
 have hfr:=Bld.fresh (w.alloc (.cells #[.string pname,.slice ta types.length tc] 43)) (w.heap.size+1) (by simp)
 have b1:5+pname.size≤9223372036854775807:=by omega
 have b2:5+pname.size+1≤9223372036854775807:=by omega
 have PC:∀W,Below (w.heap.size+1) (w.alloc (.cells #[.string pname,.slice ta types.length tc] 43)) W→W.cell? ⟨w.heap.size,1,none⟩=some (.slice ta types.length tc):=fun W h=>(h.cell (p:=⟨w.heap.size,1,none⟩) (by show w.heap.size<_;omega)).trans (aBQ _ _ 1 (by simp))
 go_enter Tryz.func75,Tryz.ntmps75
 go_wp2_with (
  go_at_call 114
  refine(aBP (w.heap.size+1) (w.heap.size+1) [] _ _ hfr ?_ (by simp)).mono ?_
  ·simp only[List.length_nil,ByteArray.size_append,aC9,List.size_toArray,List.length_cons]
   omega
  rintro e w1 ⟨rfl,hbd1,hbe1,hke1⟩
  have hbl1:Below (w.heap.size+1) (w.alloc (.cells #[.string pname,.slice ta types.length tc] 43)) w1:=((Below.refl _ _).alloc (by simp) _).trans hbe1
  have pc1:=PC w1 hbl1)
 rw[List.nil_append,HH.out] at hbd1
 go_loopw [16] (fun i wr=>∃k:Nat,k≤types.length∧i=.int .i64 k∧Bld (w.heap.size+1) (w.heap.size+1) (aAK ⟨pname,types⟩++aAX types k) wr∧Below (w.heap.size+1) (w.alloc (.cells #[.string pname,.slice ta types.length tc] 43)) wr∧w.heap.size+1<wr.heap.size) (fun i _=>types.length- (intOf i).toNat)
 case atStart=>exact⟨0,Nat.zero_le _,rfl,by rw[aAX,List.append_nil];exact hbd1,hbl1,by have:=hbe1.size;simp at this;omega⟩
 case round=>
  clear hbd1 hbe1 hke1 hbl1 pc1
  obtain⟨k,hk,rfl,hbd,hbl,hsz⟩:=hrel
  obtain⟨w0,rfl⟩:∃x,x=wr:=⟨wr,rfl⟩
  have hbw:Below w.heap.size w w0:=(aA2 w _).trans (hbl.mono (by omega))
  by_cases hlt:k<types.length
  ·obtain⟨b,off,fa,fc,rfl,htr,hcs⟩:=hK.at hB k hlt
   obtain⟨c0,c1,c2⟩:=hcs w0 hbw
   obtain⟨fa',fc',e0,e1,e2,hfs,hffc,hs1,hs2⟩:=htr.parts
   simp only[Value.slice.injEq] at e2
   obtain⟨rfl,-,rfl⟩:=e2
   have hf56:=hfs.1
   have hszT:=aRA ⟨pname,types⟩ k hlt hz
   simp only at hszT
   have hszT2:(tth types k).name.size+(tth types k).key.size+szFs (tth types k).fields≤1048576:=hszT
   have hlk:=aIL types (k+1) _ hlt
   rw[aAX,List.length_append,List.length_append] at hlk
   have HTY:Hid (aB6 (tth types k)=[116,121,112,101,32]++(tth types k).name.data.toList++keyL (tth types k)++[10]):=rfl
   have hthl:(aB6 (tth types k)).length=5+(tth types k).name.size+(keyL (tth types k)).length+1:=by rw[HTY.out];simp only[List.length_append,tl,List.length_cons,List.length_nil]
   have b3:5+(tth types k).name.size≤9223372036854775807:=by omega
   have b4:5+(tth types k).key.size≤9223372036854775807:=by omega
   clear hcs htr e0 e1
   have hbd0:=hbd.kept (aA2 w0 (.cells #[.string (tth types k).name,.string (tth types k).key,.slice fa (tth types k).fields.length fc] 52))
   have hW1:=aBP (w.heap.size+1) (w.heap.size+1) _ (⟨#[116,121,112,101,32]⟩++(tth types k).name) _ hbd0 (by simp only[List.length_append,ByteArray.size_append,aC9,List.size_toArray,List.length_cons,List.length_nil];omega) (by simp;omega)
   have hk0:=heap_alloc_new w0 (.cells #[.string (tth types k).name,.string (tth types k).key,.slice fa (tth types k).fields.length fc] 52)
   have TC:∀W:World,W.heap[w0.heap.size]?=some (.cells #[.string (tth types k).name,.string (tth types k).key,.slice fa (tth types k).fields.length fc] 52 (0,0))→W.cell? ⟨w0.heap.size,1,none⟩=some (.string (tth types k).key)∧W.cell? ⟨w0.heap.size,2,none⟩=some (.slice fa (tth types k).fields.length fc):=fun W h=>⟨(aA1 h 1 (by simp)).1,(aA1 h 2 (by simp)).1⟩
   cases hke:(tth types k).key.toList.isEmpty
   ·have hkl:keyL (tth types k)=[32,107,101,121,32]++(tth types k).key.data.toList:=by rw[keyL,if_neg (by rw[hke];simp)]
    have hkll:(keyL (tth types k)).length=5+(tth types k).key.size:=by rw[hkl];simp only[List.length_append,tl,List.length_cons,List.length_nil]
    have hW2:=fun W1 (h:Bld (w.heap.size+1) (w.heap.size+1) (aAK ⟨pname,types⟩++aAX types k++(⟨#[116,121,112,101,32]⟩++(tth types k).name:ByteArray).data.toList) W1) hs=>aBP (w.heap.size+1) (w.heap.size+1) _ (⟨#[32,107,101,121,32]⟩++(tth types k).key) W1 h (by simp only[List.length_append,ByteArray.size_append,tl,aC9,List.size_toArray,List.length_cons,List.length_nil];omega) hs
    have hW3:=fun W1 (h:Bld (w.heap.size+1) (w.heap.size+1) (aAK ⟨pname,types⟩++aAX types k++(⟨#[116,121,112,101,32]⟩++(tth types k).name:ByteArray).data.toList++(⟨#[32,107,101,121,32]⟩++(tth types k).key:ByteArray).data.toList) W1) hs=>aF3 (w.heap.size+1) (w.heap.size+1) _ 10 W1 h (by simp only[List.length_append,ByteArray.size_append,tl,aC9,List.size_toArray,List.length_cons,List.length_nil];omega) hs
    go_wp2_with (first
     |(
      go_at_call_of 114 ((tth types k).name)
      refine hW1.mono ?_
      rintro e w1 ⟨rfl,hbd1,hbe1,hke1⟩
      have hk1:=hke1.block hk0 (by omega) (by decide)
      obtain⟨t11,t12⟩:=TC w1 hk1
      have z1:=hbe1.size
      simp at z1)
     |(
      go_at_call_of 114 ((tth types k).key)
      refine(hW2 w1 hbd1 (by omega)).mono ?_
      rintro e w2 ⟨rfl,hbd2,hbe2,hke2⟩
      have hk2:=hke2.block hk1 (by omega) (by decide)
      obtain⟨t21,t22⟩:=TC w2 hk2
      have z2:=hbe2.size)
     |(
      go_at_call 115
      have hwb:=hW3 w2 hbd2 (by omega)
      rw[show(((10:UInt8).toNat:Nat):Int)=10 from rfl] at hwb
      refine hwb.mono ?_
      rintro e w3 ⟨rfl,hbdX,hbe3,hke3⟩
      have hkX:=hke3.block hk2 (by omega) (by decide)
      obtain⟨t31,t32⟩:=TC w3 hkX))
    ·have hblX:Below (w.heap.size+1) (w.alloc (.cells #[.string pname,.slice (some ⟨b,off,none⟩) types.length tc] 43)) w3:=(((hbl.alloc (by omega) _).trans hbe1).trans hbe2).trans hbe3
     have HTH:Hid (aAK ⟨pname,types⟩++aAX types k++aB6 (tth types k)=aAK ⟨pname,types⟩++aAX types k++(⟨#[116,121,112,101,32]⟩++(tth types k).name:ByteArray).data.toList++(⟨#[32,107,101,121,32]⟩++(tth types k).key:ByteArray).data.toList++[10]):=by
      show _=_
      rw[HTY.out,hkl,aA8,aA8];simp
     clear hbd1 hbe1 hke1 hk1 hbd2 hbe2 hke2 hk2 hbe3 hke3 hbd0 hW1 hk0
     go_loopw [35] (fun i w2=>∃j:Nat,j≤(tth types k).fields.length∧i=.int .i64 j∧Bld (w.heap.size+1) (w.heap.size+1) (aAK ⟨pname,types⟩++aAX types k++aB6 (tth types k)++aB0 (tth types k).fields j) w2∧Below (w.heap.size+1) (w.alloc (.cells #[.string pname,.slice (some ⟨b,off,none⟩) types.length tc] 43)) w2∧w2.heap[w0.heap.size]?=some (.cells #[.string (tth types k).name,.string (tth types k).key,.slice fa (tth types k).fields.length fc] 52 (0,0))) (fun i _=>(tth types k).fields.length- (intOf i).toNat)
     case atStart=>exact⟨0,Nat.zero_le _,rfl,by rw[aB0,List.append_nil,HTH.out];exact hbdX,hblX,hkX⟩
     case round=>
      clear hbdX hblX hkX
      obtain⟨w5,rfl⟩:∃x,x=wr:=⟨wr,rfl⟩
      obtain⟨j,hj,rfl,hbd5,hbl5,hk5⟩:=hrel
      have hw5:Below w.heap.size w w5:=(aA2 w _).trans (hbl5.mono (by omega))
      have z5:w0.heap.size<w5.heap.size:=(Array.getElem?_eq_some_iff.1 hk5).1
      by_cases hjl:j<(tth types k).fields.length
      ·obtain⟨b2,off2,na,nc,rfl,hfr2,hcs2⟩:=hfs.at hB j hjl
       obtain⟨c0,c1,c2,c3,c4,c5,c6,c7⟩:=hcs2 w5 hw5
       have hsf:=aMG (tth types k) j hjl hszT
       have hsf2:(fth (tth types k).fields j).name.size+(fth (tth types k).fields j).of.size+szNs (fth (tth types k).fields j).needs≤1048576:=hsf
       obtain⟨-,-,-,-,-,-,-,-,hSt,hncc,-,-⟩:=hfr2.vals
       have hln:=aEM (tth types k).fields j _ (Nat.le_of_lt hjl)
       have hwf:=fun w6 (hb6:Below (w5.heap.size+1) (w5.alloc (.cells #[.string (fth (tth types k).fields j).name,.string (fth (tth types k).fields j).of,.bool (fth (tth types k).fields j).list,.bool (fth (tth types k).fields j).must,.bool (fth (tth types k).fields j).far,.bool (fth (tth types k).fields j).hidden,.bool (fth (tth types k).fields j).shared,.slice na (fth (tth types k).fields j).needs.length nc] 54)) w6)=>aG0 (fth (tth types k).fields j).name (fth (tth types k).fields j).of (fth (tth types k).fields j).list (fth (tth types k).fields j).must (fth (tth types k).fields j).far (fth (tth types k).fields j).hidden (fth (tth types k).fields j).shared (fth (tth types k).fields j).needs na nc w6 (w.heap.size+1) (w.heap.size+1) _ (hbd5.kept ((aA2 w5 _).trans (hb6.mono (by omega)))) (by have:=hb6.size;simp at this;omega) (by have:=hb6.size;simp at this;omega) (by omega) (by omega) (by simp only[List.length_append] at hln ⊢;omega) ((hSt.under ((hw5.trans (((aA2 w5 _).trans (hb6.mono (by omega))).mono (by omega))).mono hB)).sub fun q hq=>by omega) hncc (by omega)
       clear hcs2
       go_wp2_with (first
        |(
         go_at_call 117
         refine(aBH _ _ _ _ _ _ _ _ _ _ _).mono ?_
         rintro e w6 ⟨rfl,hb6⟩
         have hb6':=hb6.mono (show w5.heap.size+1≤_ by simp)
         have z6:=hb6.size
         simp at z6)
        |(
         go_at_call 116
         refine(hwf w6 hb6').mono ?_
         rintro e w7 ⟨rfl,hbd7,hbe7,hke7⟩))
       have hk6:w6.heap[w0.heap.size]?=some (.cells #[.string (tth types k).name,.string (tth types k).key,.slice (some ⟨b2,off2,none⟩) (tth types k).fields.length fc] 52 (0,0)):=(hb6.block _ (by simp;omega)).trans (((aA2 w5 _).block _ z5).trans hk5)
       go_roundw
       case rel=>exact⟨j+1,by omega,by go_num,by rw[aB0,←List.append_assoc];exact hbd7,(hbl5.trans (((aA2 w5 _).trans (hb6.mono (by simp))).mono (by omega))).trans hbe7,hke7.block hk6 (by omega) (by decide)⟩
       case measure=>simp[intOf];omega
      ·go_wp2_with fail
       go_roundw
       case rel=>
        have ej:j=(tth types k).fields.length:=by omega
        refine⟨k+1,by omega,by go_num,?_,hbl5,by omega⟩
        rw[aAX,←List.append_assoc,←List.append_assoc,←ej]
        exact hbd5
       case measure=>simp[intOf];omega
   ·have hkl:keyL (tth types k)=[]:=by rw[keyL,if_pos hke]
    have hkll:(keyL (tth types k)).length=0:=by rw[hkl];rfl
    have hW3:=fun W1 (h:Bld (w.heap.size+1) (w.heap.size+1) (aAK ⟨pname,types⟩++aAX types k++(⟨#[116,121,112,101,32]⟩++(tth types k).name:ByteArray).data.toList) W1) hs=>aF3 (w.heap.size+1) (w.heap.size+1) _ 10 W1 h (by simp only[List.length_append,ByteArray.size_append,tl,aC9,List.size_toArray,List.length_cons,List.length_nil];omega) hs
    go_wp2_with (first
     |(
      go_at_call_of 114 ((tth types k).name)
      refine hW1.mono ?_
      rintro e w1 ⟨rfl,hbd1,hbe1,hke1⟩
      have hk1:=hke1.block hk0 (by omega) (by decide)
      obtain⟨t11,t12⟩:=TC w1 hk1
      have z1:=hbe1.size
      simp at z1)
     |(
      go_at_call 115
      have hwb:=hW3 w1 hbd1 (by omega)
      rw[show(((10:UInt8).toNat:Nat):Int)=10 from rfl] at hwb
      refine hwb.mono ?_
      rintro e w3 ⟨rfl,hbdX,hbe3,hke3⟩
      have hkX:=hke3.block hk1 (by omega) (by decide)
      obtain⟨t31,t32⟩:=TC w3 hkX))
    ·have hblX:Below (w.heap.size+1) (w.alloc (.cells #[.string pname,.slice (some ⟨b,off,none⟩) types.length tc] 43)) w3:=((hbl.alloc (by omega) _).trans hbe1).trans hbe3
     have HTH:Hid (aAK ⟨pname,types⟩++aAX types k++aB6 (tth types k)=aAK ⟨pname,types⟩++aAX types k++(⟨#[116,121,112,101,32]⟩++(tth types k).name:ByteArray).data.toList++[10]):=by
      show _=_
      rw[HTY.out,hkl,aA8];simp
     clear hbd1 hbe1 hke1 hk1 hbe3 hke3 hbd0 hW1 hk0
     go_loopw [35] (fun i w2=>∃j:Nat,j≤(tth types k).fields.length∧i=.int .i64 j∧Bld (w.heap.size+1) (w.heap.size+1) (aAK ⟨pname,types⟩++aAX types k++aB6 (tth types k)++aB0 (tth types k).fields j) w2∧Below (w.heap.size+1) (w.alloc (.cells #[.string pname,.slice (some ⟨b,off,none⟩) types.length tc] 43)) w2∧w2.heap[w0.heap.size]?=some (.cells #[.string (tth types k).name,.string (tth types k).key,.slice fa (tth types k).fields.length fc] 52 (0,0))) (fun i _=>(tth types k).fields.length- (intOf i).toNat)
     case atStart=>exact⟨0,Nat.zero_le _,rfl,by rw[aB0,List.append_nil,HTH.out];exact hbdX,hblX,hkX⟩
     case round=>
      clear hbdX hblX hkX
      obtain⟨w5,rfl⟩:∃x,x=wr:=⟨wr,rfl⟩
      obtain⟨j,hj,rfl,hbd5,hbl5,hk5⟩:=hrel
      have hw5:Below w.heap.size w w5:=(aA2 w _).trans (hbl5.mono (by omega))
      have z5:w0.heap.size<w5.heap.size:=(Array.getElem?_eq_some_iff.1 hk5).1
      by_cases hjl:j<(tth types k).fields.length
      ·obtain⟨b2,off2,na,nc,rfl,hfr2,hcs2⟩:=hfs.at hB j hjl
       obtain⟨c0,c1,c2,c3,c4,c5,c6,c7⟩:=hcs2 w5 hw5
       have hsf:=aMG (tth types k) j hjl hszT
       have hsf2:(fth (tth types k).fields j).name.size+(fth (tth types k).fields j).of.size+szNs (fth (tth types k).fields j).needs≤1048576:=hsf
       obtain⟨-,-,-,-,-,-,-,-,hSt,hncc,-,-⟩:=hfr2.vals
       have hln:=aEM (tth types k).fields j _ (Nat.le_of_lt hjl)
       have hwf:=fun w6 (hb6:Below (w5.heap.size+1) (w5.alloc (.cells #[.string (fth (tth types k).fields j).name,.string (fth (tth types k).fields j).of,.bool (fth (tth types k).fields j).list,.bool (fth (tth types k).fields j).must,.bool (fth (tth types k).fields j).far,.bool (fth (tth types k).fields j).hidden,.bool (fth (tth types k).fields j).shared,.slice na (fth (tth types k).fields j).needs.length nc] 54)) w6)=>aG0 (fth (tth types k).fields j).name (fth (tth types k).fields j).of (fth (tth types k).fields j).list (fth (tth types k).fields j).must (fth (tth types k).fields j).far (fth (tth types k).fields j).hidden (fth (tth types k).fields j).shared (fth (tth types k).fields j).needs na nc w6 (w.heap.size+1) (w.heap.size+1) _ (hbd5.kept ((aA2 w5 _).trans (hb6.mono (by omega)))) (by have:=hb6.size;simp at this;omega) (by have:=hb6.size;simp at this;omega) (by omega) (by omega) (by simp only[List.length_append] at hln ⊢;omega) ((hSt.under ((hw5.trans (((aA2 w5 _).trans (hb6.mono (by omega))).mono (by omega))).mono hB)).sub fun q hq=>by omega) hncc (by omega)
       clear hcs2
       go_wp2_with (first
        |(
         go_at_call 117
         refine(aBH _ _ _ _ _ _ _ _ _ _ _).mono ?_
         rintro e w6 ⟨rfl,hb6⟩
         have hb6':=hb6.mono (show w5.heap.size+1≤_ by simp)
         have z6:=hb6.size
         simp at z6)
        |(
         go_at_call 116
         refine(hwf w6 hb6').mono ?_
         rintro e w7 ⟨rfl,hbd7,hbe7,hke7⟩))
       have hk6:w6.heap[w0.heap.size]?=some (.cells #[.string (tth types k).name,.string (tth types k).key,.slice (some ⟨b2,off2,none⟩) (tth types k).fields.length fc] 52 (0,0)):=(hb6.block _ (by simp;omega)).trans (((aA2 w5 _).block _ z5).trans hk5)
       go_roundw
       case rel=>exact⟨j+1,by omega,by go_num,by rw[aB0,←List.append_assoc];exact hbd7,(hbl5.trans (((aA2 w5 _).trans (hb6.mono (by simp))).mono (by omega))).trans hbe7,hke7.block hk6 (by omega) (by decide)⟩
       case measure=>simp[intOf];omega
      ·go_wp2_with fail
       go_roundw
       case rel=>
        have ej:j=(tth types k).fields.length:=by omega
        refine⟨k+1,by omega,by go_num,?_,hbl5,by omega⟩
        rw[aAX,←List.append_assoc,←List.append_assoc,←ej]
        exact hbd5
       case measure=>simp[intOf];omega
  ·have ek:k=types.length:=by omega
   go_wp2_with (
    go_at_call 86
    refine(aNK (w.heap.size+1) (w.heap.size+1) _ w0 hbd (by omega)).mono ?_
    rintro e w9 ⟨rfl,hbe9⟩)
   exact⟨rfl,.string ⟨(aAK ⟨pname,types⟩++aAX types types.length).toArray⟩,by simp[results,Tryz.results75,go_sem],by rw[HP0.out],hbw.trans (hbe9.mono (by omega))⟩
end Go.Proofs.YtokmgbidmnanpaaGreatDoor
namespace Go.Proofs.YtokmgbidmnanpaaGreatDoor
open Go.RowKit
theorem aQO(f:F):(aGK f).data.toList.length≤szF f+33:=by
 have h1:=aEV f f.needs.length
 have h2:szF f=f.name.size+f.of.size+(f.needs.length+aDD f.needs f.needs.length):=rfl
 rw[tl,aGK,ByteArray.size_append]
 have h3:(⟨#[10]⟩:ByteArray).size=1:=rfl
 omega
theorem aIY(fs:List F):∀n,(aB0 fs n).length≤aBY fs n+33*n
 |0=>by simp[aB0]
 |n+1=>by
  have h1:=aIY fs n
  have h2:=aQO (fth fs n)
  rw[aB0,List.length_append,aD0]
  omega
theorem aSH(t:T):(keyL t).length≤5+t.key.size:=by
 unfold keyL
 split
 ·exact Nat.zero_le _
 ·rw[List.length_append,tl];exact Nat.le_refl _
theorem aLM(t:T):(aB6 t).length≤11+t.name.size+t.key.size:=by
 have h1:=aSH t
 have h2:([116,121,112,101,32]:List UInt8).length=5:=rfl
 have h3:([10]:List UInt8).length=1:=rfl
 rw[aB6,List.length_append,List.length_append,List.length_append,tl]
 omega
theorem aKJ(ts:List T):∀n,(aAX ts n).length≤33*aBT ts n+11*n
 |0=>by simp[aAX]
 |n+1=>by
  have h1:=aKJ ts n
  have h2:=aLM (tth ts n)
  have h3:=aIY (tth ts n).fields (tth ts n).fields.length
  have h4:szT (tth ts n)=(tth ts n).name.size+(tth ts n).key.size+((tth ts n).fields.length+aBY (tth ts n).fields (tth ts n).fields.length):=rfl
  rw[aAX,List.length_append,List.length_append,aCK]
  omega
theorem aH3(p:Pt):(aCS p).length≤33*szP p+6:=by
 have h1:=aKJ p.types p.types.length
 have h2:szP p=p.name.size+(p.types.length+aBT p.types p.types.length):=rfl
 have h3:([112,97,114,116,32]:List UInt8).length=5:=rfl
 have h4:([10]:List UInt8).length=1:=rfl
 rw[aCS,aAK,List.length_append,List.length_append,List.length_append,tl]
 omega
theorem aM6(p:Pt)(w:World)(B:Nat)(v:Value)(hP:PRep w (·<B) p v)(hB:B≤w.heap.size)(hz:szP p≤1048576):
  Calls Tryz.prog 75 #[v] w fun e w'=>e=.returned (.string ⟨(aCS p).toArray⟩)∧Below w.heap.size w w':=
 aMH p w B v hP hB hz (by have:=aH3 p;omega)
end Go.Proofs.YtokmgbidmnanpaaGreatDoor
namespace Go.Proofs.YtokmgbidmnanpaaGreatDoor
open Go.RowKit
def aFT(p:Pt):Nat→Nat→Nat
 |k,0=>k
 |k,n+1=>if aAG p k=0 then aFT p (k+1) n else k
def badT(p:Pt):Nat:=aFT p 0 p.types.length
def aG9(p:Pt):Value:=
 if 5<p.types.length then .iface 151 (.agg #[.int .i64 6,.iface 149 (.int .i64 6)])
 else if aAO p.name=false then .iface 149 (.int .i64 1)
 else if aB4 p=false then .iface 149 (.int .i64 7)
 else if badT p<p.types.length then .iface 151 (.agg #[.int .i64 ((badT p:Nat)+1:Int),aBS (aAG p (badT p))])
 else if 1500<(aCS p).length then .iface 149 (.int .i64 6) else .nilIface
set_option maxHeartbeats 3200000 in
theorem aLB(p:Pt)(w:World)(B:Nat)(v:Value)(hP:PRep w (·<B) p v)(hB:B≤w.heap.size)(hz:szP p≤1048576):
  Calls Tryz.prog 68 #[v] w fun e w'=>e=.returned (aG9 p)∧Below w.heap.size w w':=by
 have hP':=hP
 obtain⟨pname,types⟩:=p
 obtain⟨ta,tc,rfl,hK,hnc,hpn⟩:=hP
 simp only at hK hnc hpn hP'
 have h56:=hK.1
 have hE:Hid (aG9 ⟨pname,types⟩=if 5<types.length then .iface 151 (.agg #[.int .i64 6,.iface 149 (.int .i64 6)])
  else if aAO pname=false then .iface 149 (.int .i64 1)
  else if aB4 ⟨pname,types⟩=false then .iface 149 (.int .i64 7)
  else if badT ⟨pname,types⟩<types.length then .iface 151 (.agg #[.int .i64 ((badT ⟨pname,types⟩:Nat)+1:Int),aBS (aAG ⟨pname,types⟩ (badT ⟨pname,types⟩))])
  else if 1500<(aCS ⟨pname,types⟩).length then .iface 149 (.int .i64 6) else .nilIface):=rfl
 have PC:∀W,Below (w.heap.size+1) (w.alloc (.cells #[.string pname,.slice ta types.length tc] 43)) W→W.cell? ⟨w.heap.size,0,none⟩=some (.string pname)∧W.cell? ⟨w.heap.size,1,none⟩=some (.slice ta types.length tc)∧Below w.heap.size w W∧B≤W.heap.size∧w.heap.size+1≤W.heap.size:=fun W h=>by
  have hs:=h.size
  simp at hs
  exact⟨(h.cell (p:=⟨w.heap.size,0,none⟩) (by show w.heap.size<_;omega)).trans (aBQ _ _ 0 (by simp)),(h.cell (p:=⟨w.heap.size,1,none⟩) (by show w.heap.size<_;omega)).trans (aBQ _ _ 1 (by simp)),(aA2 w _).trans (h.mono (by omega)),by omega,by omega⟩
 have hT0:=Below.refl (w.heap.size+1) (w.alloc (.cells #[.string pname,.slice ta types.length tc] 43))
 have hR:=fun W h=>aOK ⟨pname,types⟩ W B _ (hP'.under ((PC W h).2.2.1.mono hB)) (PC W h).2.2.2.1
 have hC:=fun W h k hk=>aLA ⟨pname,types⟩ k W B _ (hP'.under ((PC W h).2.2.1.mono hB)) hk (PC W h).2.2.2.1
 have hX:=fun W h=>aM6 ⟨pname,types⟩ W B _ (hP'.under ((PC W h).2.2.1.mono hB)) (PC W h).2.2.2.1 hz
 have hN:=fun W=>aCM pname W hpn
 by_cases h5:5<types.length
 ·have d:(5:Int)<(types.length:Int):=by omega
  go_enter Tryz.func68,Tryz.ntmps68
  go_wp2_with fail
  go_ret
  exact⟨by rw[hE.out,if_pos h5];rfl,(PC _ hT0).2.2.1⟩
 have d5:¬(5:Int)<(types.length:Int):=by omega
 cases hn:aAO pname
 ·rw[hn] at hN
  go_enter Tryz.func68,Tryz.ntmps68
  go_wp2_with (
   go_at_call 105
   refine(hN _).mono ?_
   rintro e w1 ⟨rfl,rfl⟩)
  go_ret
  exact⟨by rw[hE.out,if_neg h5,if_pos hn];rfl,(PC _ hT0).2.2.1⟩
 cases hr:aB4 ⟨pname,types⟩
 ·rw[hn] at hN
  rw[hr] at hR
  go_enter Tryz.func68,Tryz.ntmps68
  go_wp2_with (first
   |(
    go_at_call 105
    refine(hN _).mono ?_
    rintro e w1 ⟨rfl,rfl⟩)
   |(
    go_at_call 106
    refine(hR _ hT0).mono ?_
    rintro e w2 ⟨rfl,hb2⟩
    have hT2:=hT0.trans (hb2.mono (by simp))))
  go_ret
  exact⟨by rw[hE.out,if_neg h5,if_neg (by rw[hn];simp),if_pos hr];rfl,(PC _ hT2).2.2.1⟩
 rw[hn] at hN
 rw[hr] at hR
 go_enter Tryz.func68,Tryz.ntmps68
 go_wp2_with (first
  |(
   go_at_call 105
   refine(hN _).mono ?_
   rintro e w1 ⟨rfl,rfl⟩)
  |(
   go_at_call 106
   refine(hR _ hT0).mono ?_
   rintro e w2 ⟨rfl,hb2⟩
   have hT2:=hT0.trans (hb2.mono (by simp))
   obtain⟨q20,q21,hw2,hB2,hs2⟩:=PC w2 hT2))
 go_loopw [24] (fun i wr=>∃k:Nat,k≤types.length∧i=.int .i64 k∧Hid (badT ⟨pname,types⟩=aFT ⟨pname,types⟩ k (types.length- k))∧Below (w.heap.size+1) (w.alloc (.cells #[.string pname,.slice ta types.length tc] 43)) wr) (fun i _=>types.length- (intOf i).toNat)
 case atStart=>exact⟨0,Nat.zero_le _,rfl,rfl,hT2⟩
 case round=>
  clear q20 q21 hw2 hB2 hs2 hT2 hb2
  obtain⟨k,hk,rfl,HBD,hbl⟩:=hrel
  obtain⟨w0,rfl⟩:∃x,x=wr:=⟨wr,rfl⟩
  obtain⟨q0,q1,hw0,hB0,hs0⟩:=PC w0 hbl
  by_cases hlt:k<types.length
  ·have hC1:=hC w0 hbl k hlt
   have HB2:Hid (badT ⟨pname,types⟩=if aAG ⟨pname,types⟩ k=0 then aFT ⟨pname,types⟩ (k+1) (types.length- (k+1)) else k):=by
    show _=_
    rw[HBD.out,show types.length- k=(types.length- (k+1))+1 by omega,aFT]
   by_cases hc:aAG ⟨pname,types⟩ k=0
   ·rw[hc,show aBS 0=.nilIface from rfl] at hC1
    go_wp2_with (
     go_at_call 107
     refine hC1.mono ?_
     rintro e w3 ⟨rfl,hb3⟩
     have hT3:=hbl.trans (hb3.mono (by omega)))
    go_roundw
    case rel=>exact⟨k+1,by omega,by go_num,by show _=_;rw[HB2.out,if_pos hc],hT3⟩
    case measure=>simp[intOf];omega
   ·have HBK:Hid (badT ⟨pname,types⟩=k):=by show _=_;rw[HB2.out,if_neg hc]
    have hce:aBS (aAG ⟨pname,types⟩ k)=.iface 149 (.int .i64 (aAG ⟨pname,types⟩ k)):=by rw[aBS,if_neg hc]
    rw[hce] at hC1
    go_wp2_with (
     go_at_call 107
     refine hC1.mono ?_
     rintro e w3 ⟨rfl,hb3⟩
     have hT3:=hbl.trans (hb3.mono (by omega)))
    refine bodyPost_ret (v:=.iface 151 (.agg #[.int .i64 ((k:Nat)+1:Int),.iface 149 (.int .i64 (aAG ⟨pname,types⟩ k))])) ?res rfl ⟨?_,(PC _ hT3).2.2.1⟩
    case res=>simp[results,Tryz.results68,go_sem]
    rw[hE.out,if_neg h5,if_neg (by rw[hn];simp),if_neg (by rw[hr];simp),HBK.out,if_pos hlt,hce]
  ·have HBK:Hid (badT ⟨pname,types⟩=types.length):=by
    show _=_
    rw[HBD.out,show types.length- k=0 by omega,aFT];omega
   have hX1:=hX w0 hbl
   have hln:=aH3 ⟨pname,types⟩
   have hsz:(⟨(aCS ⟨pname,types⟩).toArray⟩:ByteArray).size=(aCS ⟨pname,types⟩).length:=List.size_toArray
   generalize (⟨(aCS ⟨pname,types⟩).toArray⟩:ByteArray)=tx at hX1 hsz
   have htz:Hid (tx.size=(aCS ⟨pname,types⟩).length):=hsz
   have hsm:tx.size≤9223372036854775807:=by omega
   by_cases hlen:1500<(aCS ⟨pname,types⟩).length
   ·have d:(1500:Int)<(tx.size:Int):=by omega
    clear hsz hln
    go_wp2_with (
     go_at_call 75
     refine hX1.mono ?_
     rintro e w3 ⟨rfl,hb3⟩
     have hT3:=hbl.trans (hb3.mono (by omega)))
    refine bodyPost_ret (v:=.iface 149 (.int .i64 6)) ?res rfl ⟨?_,(PC _ hT3).2.2.1⟩
    case res=>simp[results,Tryz.results68,go_sem]
    rw[hE.out,if_neg h5,if_neg (by rw[hn];simp),if_neg (by rw[hr];simp),HBK.out,if_neg (by omega),if_pos hlen]
   ·have d:¬(1500:Int)<(tx.size:Int):=by omega
    clear hsz hln
    go_wp2_with (
     go_at_call 75
     refine hX1.mono ?_
     rintro e w3 ⟨rfl,hb3⟩
     have hT3:=hbl.trans (hb3.mono (by omega)))
    refine bodyPost_ret (v:=.nilIface) ?res rfl ⟨?_,(PC _ hT3).2.2.1⟩
    case res=>simp[results,Tryz.results68,go_sem]
    rw[hE.out,if_neg h5,if_neg (by rw[hn];simp),if_neg (by rw[hr];simp),HBK.out,if_neg (by omega),if_neg hlen]
end Go.Proofs.YtokmgbidmnanpaaGreatDoor
namespace Go.Proofs.YtokmgbidmnanpaaGreatDoor
open Go.RowKit
theorem aQJ(p:Pt)(hz:szP p≤1048576)(nm:ByteArray):szT (aAY p nm)≤1048576:=by
 unfold aAY
 split
 ·rename_i h
  unfold aCD at h ⊢
  rcases aAB (fun i=>(tth p.types i).name.toList==nm.toList) p.types.length with⟨e,-⟩| ⟨k,e,hk,-,-⟩
  ·rw[e] at h;omega
  ·rw[e]
   exact aRA p k hk hz
 ·simp[szT,T.zero,szFs,aBY]
theorem aTE(p:Pt)(hz:szP p≤1048576)(nm n:ByteArray):szF (fldF p nm n)≤1048576:=by
 have ht:=aQJ p hz nm
 unfold fldF aBU
 split
 ·rename_i h
  unfold aAC at h ⊢
  rcases aAB (fun i=>(fth (aAY p nm).fields i).name.toList==n.toList) (aAY p nm).fields.length with⟨e,-⟩| ⟨k,e,hk,-,-⟩
  ·rw[e] at h;omega
  ·rw[e]
   exact aMG _ k hk ht
 ·simp[szF,F.zero,szNs,aDD]
theorem aOS(ns:List ByteArray):∀(n i:Nat),i<n→(nth ns i).size≤aDD ns n
 |0,i,h=>by omega
 |n+1,i,h=>by
  have e:aDD ns (n+1)=aDD ns n+(nth ns n).size:=by simp[aDD,List.range_succ]
  rw[e]
  by_cases hi:i=n
  ·subst hi;omega
  ·have:=aOS ns n i (by omega);omega
theorem aEI(p:Pt)(hz:szP p≤1048576)(nm n:ByteArray):(fldF p nm n).name.size≤1048576∧(fldF p nm n).of.size≤1048576∧(fldF p nm n).needs.length≤1048576∧∀i,(nth (fldF p nm n).needs i).size≤1048576:=by
 have h:=aTE p hz nm n
 unfold szF szNs at h
 refine⟨by omega,by omega,by omega,fun i=>?_⟩
 by_cases hi:i<(fldF p nm n).needs.length
 ·have:=aOS (fldF p nm n).needs _ i hi;omega
 ·unfold nth
  rw[List.getD_eq_getElem?_getD,List.getElem?_eq_none (by omega)]
  simp
theorem aGB(p:Pt)(hz:szP p≤1048576):∀(f:Nat) (nm:ByteArray) (ks:List Se) (n:Nat) (out:List ByteArray),(aAD p f nm ks n out).length≤out.length+aBX f ks n*1048577
 |0,nm,ks,n,out=>by simp[aAD]
 |f+1,nm,ks,0,out=>by simp[aAD]
 |f+1,nm,ks,n+1,out=>by
  rw[aAD,aBN,aBD]
  have h1:=aGB p hz f (fldF p nm (sth ks n).name).of (sth ks n).kids (sth ks n).kids.length (aC1 (aAD p (f+1) nm ks n out) (ofF nm (fldF p nm (sth ks n).name)))
  have h2:=aGB p hz (f+1) nm ks n out
  have h3:=aDR (ofF nm (fldF p nm (sth ks n).name)) (aAD p (f+1) nm ks n out)
  have h4:=(aEI p hz nm (sth ks n).name).2.2.1
  have h5:(ofF nm (fldF p nm (sth ks n).name)).length=1+(fldF p nm (sth ks n).name).needs.length:=by simp[ofF];omega
  rw[Nat.add_mul,Nat.add_mul]
  omega
theorem aGQ(nm n:ByteArray):(fldT nm n).size=nm.size+1+n.size:=by
 unfold fldT
 rw[ByteArray.size_append,ByteArray.size_append]
 rfl
theorem aJG(L gd:List ByteArray)(nm:ByteArray)(j:Nat)(h:j<gd.length):aC1 L ((gd.take (j+1)).map (fldT nm))=addT (aC1 L ((gd.take j).map (fldT nm))) (fldT nm (nth gd j)):=by
 have e:gd.take (j+1)=gd.take j++[nth gd j]:=by
  rw[List.take_add_one]
  simp[nth,List.getD_eq_getElem?_getD,h]
 rw[e,List.map_append]
 unfold aC1
 rw[List.foldl_append]
 rfl
end Go.Proofs.YtokmgbidmnanpaaGreatDoor
