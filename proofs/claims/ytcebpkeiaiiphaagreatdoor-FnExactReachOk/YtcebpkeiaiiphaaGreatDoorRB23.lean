import Derived.Test.YtcebpkeiaiiphaaGreatDoorRB20
set_option linter.unusedSimpArgs false
set_option linter.unusedVariables false
namespace Go.Proofs.YtcebpkeiaiiphaaGreatDoor
open Go.RowKit
theorem aRH(f:F):(aGV f).data.toList.length≤szF f+33:=by
 have h1:=aEW f f.needs.length
 have h2:szF f=f.name.size+f.of.size+(f.needs.length+aEB f.needs f.needs.length):=rfl
 rw[tl,aGV,ByteArray.size_append]
 have h3:(⟨#[10]⟩:ByteArray).size=1:=rfl
 omega
theorem aIQ(fs:List F):∀n,(aB5 fs n).length≤aBC fs n+33*n
 |0=>by simp[aB5]
 |n+1=>by
  have h1:=aIQ fs n
  have h2:=aRH (fth fs n)
  rw[aB5,List.length_append,aC1]
  omega
theorem aSE(t:T):(keyL t).length≤5+t.key.size:=by
 unfold keyL
 split
 ·exact Nat.zero_le _
 ·rw[List.length_append,tl];exact Nat.le_refl _
theorem aLH(t:T):(aBD t).length≤11+t.name.size+t.key.size:=by
 have h1:=aSE t
 have h2:([116,121,112,101,32]:List UInt8).length=5:=rfl
 have h3:([10]:List UInt8).length=1:=rfl
 rw[aBD,List.length_append,List.length_append,List.length_append,tl]
 omega
theorem aKI(ts:List T):∀n,(aAX ts n).length≤33*aB8 ts n+11*n
 |0=>by simp[aAX]
 |n+1=>by
  have h1:=aKI ts n
  have h2:=aLH (tth ts n)
  have h3:=aIQ (tth ts n).fields (tth ts n).fields.length
  have h4:szT (tth ts n)=(tth ts n).name.size+(tth ts n).key.size+((tth ts n).fields.length+aBC (tth ts n).fields (tth ts n).fields.length):=rfl
  rw[aAX,List.length_append,List.length_append,aBM]
  omega
theorem aGT(p:Pt):(aCR p).length≤33*szP p+6:=by
 have h1:=aKI p.types p.types.length
 have h2:szP p=p.name.size+(p.types.length+aB8 p.types p.types.length):=rfl
 have h3:([112,97,114,116,32]:List UInt8).length=5:=rfl
 have h4:([10]:List UInt8).length=1:=rfl
 rw[aCR,aAK,List.length_append,List.length_append,List.length_append,tl]
 omega
theorem aML(p:Pt)(w:World)(B:Nat)(v:Value)(hP:PRep w (·<B) p v)(hB:B≤w.heap.size)(hz:szP p≤1048576):
  Calls Tryz.prog 97 #[v] w fun e w'=>e=.returned (.string ⟨(aCR p).toArray⟩)∧Below w.heap.size w w':=
 aM1 p w B v hP hB hz (by have:=aGT p;omega)
set_option maxHeartbeats 3200000 in
theorem aO5(p:Pt)(w:World)(B:Nat)(v:Value)(hP:PRep w (·<B) p v)(hB:B≤w.heap.size)(hz:szP p≤1048576):
  Calls Tryz.prog 74 #[v] w fun e w'=>e=.returned (.string ⟨(aCR p).toArray⟩)∧Below w.heap.size w w':=by
 have hP':=hP
 obtain⟨pname,types⟩:=p
 obtain⟨ta,tc,rfl,hK,hnc,hpn⟩:=hP
 simp only at hK hnc hpn hP'
 have h56:=hK.1
 have hpl:=aGT ⟨pname,types⟩
 have hl2:(aAK ⟨pname,types⟩).length+(aAX types types.length).length≤34603020:=by rw[←List.length_append];have:(aAK ⟨pname,types⟩++aAX types types.length).length≤_:=hpl;omega
 have hpz:pname.size≤1048576:=by have:pname.size+szTs types≤1048576:=hz;omega
 have HP0:Hid (aCR ⟨pname,types⟩=aAK ⟨pname,types⟩++aAX types types.length):=rfl
 have HH:Hid ((⟨#[112,97,114,116,32]⟩++pname++⟨#[10]⟩:ByteArray)=⟨(aAK ⟨pname,types⟩++aAX types 0).toArray⟩):=by show _=_;apply ByteArray.ext;apply Array.toList_inj.1;rw[aAD,aAD,aAX,List.append_nil];rfl
 have b1:5+pname.size≤9223372036854775807:=by omega
 have b2:5+pname.size+1≤9223372036854775807:=by omega
 have PC:∀W,Below (w.heap.size+1) (w.alloc (.cells #[.string pname,.slice ta types.length tc] 46)) W→W.cell? ⟨w.heap.size,1,none⟩=some (.slice ta types.length tc):=fun W h=>(h.cell (p:=⟨w.heap.size,1,none⟩) (by show w.heap.size<_;omega)).trans (aBR _ _ 1 (by simp))
 go_enter Tryz.func74,Tryz.ntmps74
 go_wp2_with fail
 go_loopw [3,4] (fun o i wr=>∃k:Nat,∃x:ByteArray,k≤types.length∧i=.int .i64 k∧o=.string x∧Hid (x.data.toList=aAK ⟨pname,types⟩++aAX types k)∧Below (w.heap.size+1) (w.alloc (.cells #[.string pname,.slice ta types.length tc] 46)) wr) (fun _ i _=>types.length- (intOf i).toNat)
 case atStart=>exact⟨0,_,Nat.zero_le _,rfl,rfl,by show _=_;rw[HH.out],Below.refl _ _⟩
 case round=>
  obtain⟨k,x,hk,rfl,rfl,HX,hbl⟩:=hrel
  obtain⟨w0,rfl⟩:∃x,x=wr:=⟨wr,rfl⟩
  have hbw:Below w.heap.size w w0:=(aA2 w _).trans (hbl.mono (by omega))
  have pc:=PC w0 hbl
  have hz0:=hbl.size
  simp at hz0
  by_cases hlt:k<types.length
  ·obtain⟨b,off,fa,fc,rfl,htr,hcs⟩:=hK.at hB k hlt
   obtain⟨c0,c1,c2⟩:=hcs w0 hbw
   obtain⟨fa',fc',e0,e1,e2,hfs,hffc,hs1,hs2⟩:=htr.parts
   simp only[Value.slice.injEq] at e2
   obtain⟨rfl,-,rfl⟩:=e2
   have hf56:=hfs.1
   have hszT:=aP0 ⟨pname,types⟩ k hlt hz
   simp only at hszT
   have hszT2:(tth types k).name.size+(tth types k).key.size+szFs (tth types k).fields≤1048576:=hszT
   have hlk:=aIP types (k+1) _ hlt
   rw[aAX,List.length_append,List.length_append] at hlk
   have hxs:x.size=(aAK ⟨pname,types⟩).length+(aAX types k).length:=by rw[←tl,HX.out,List.length_append]
   have b3:x.size+5≤9223372036854775807:=by omega
   have b4:x.size+5+(tth types k).name.size≤9223372036854775807:=by omega
   have b5:x.size+5+(tth types k).name.size+5≤9223372036854775807:=by omega
   have b6:x.size+5+(tth types k).name.size+5+(tth types k).key.size≤9223372036854775807:=by omega
   have b7:x.size+5+(tth types k).name.size+5+(tth types k).key.size+1≤9223372036854775807:=by omega
   have b8:x.size+5+(tth types k).name.size+1≤9223372036854775807:=by omega
   have HTY:Hid (aBD (tth types k)=[116,121,112,101,32]++(tth types k).name.data.toList++keyL (tth types k)++[10]):=rfl
   have hk0:=heap_alloc_new w0 (.cells #[.string (tth types k).name,.string (tth types k).key,.slice fa (tth types k).fields.length fc] 96)
   clear hcs htr e0 e1 hxs
   cases hke:(tth types k).key.toList.isEmpty
   ·have hkl:keyL (tth types k)=[32,107,101,121,32]++(tth types k).key.data.toList:=by rw[keyL,if_neg (by rw[hke];simp)]
    go_wp2_with fail
    have HTH:Hid ((x++⟨#[116,121,112,101,32]⟩++(tth types k).name++⟨#[32,107,101,121,32]⟩++(tth types k).key++⟨#[10]⟩:ByteArray).data.toList=aAK ⟨pname,types⟩++aAX types k++aBD (tth types k)++aB5 (tth types k).fields 0):=by
     show _=_
     rw[aAD,aAD,aAD,aAD,aAD,HX.out,aB5,List.append_nil,HTY.out,hkl];simp
    have TC:∀W:World,W.heap[w0.heap.size]?=some (.cells #[.string (tth types k).name,.string (tth types k).key,.slice fa (tth types k).fields.length fc] 96 (0,0))→W.cell? ⟨w0.heap.size,2,none⟩=some (.slice fa (tth types k).fields.length fc):=fun W h=>(aA1 h 2 (by simp)).1
    go_loopw [3,6] (fun o i w2=>∃j:Nat,∃y:ByteArray,j≤(tth types k).fields.length∧i=.int .i64 j∧o=.string y∧Hid (y.data.toList=aAK ⟨pname,types⟩++aAX types k++aBD (tth types k)++aB5 (tth types k).fields j)∧Below (w.heap.size+1) (w.alloc (.cells #[.string pname,.slice (some ⟨b,off,none⟩) types.length tc] 46)) w2∧w2.heap[w0.heap.size]?=some (.cells #[.string (tth types k).name,.string (tth types k).key,.slice fa (tth types k).fields.length fc] 96 (0,0))) (fun _ i _=>(tth types k).fields.length- (intOf i).toNat)
    case atStart=>exact⟨0,_,Nat.zero_le _,rfl,rfl,HTH,hbl.alloc (by omega) _,hk0⟩
    case round=>
     obtain⟨j,y,hj,rfl,rfl,HY,hbl5,hk5⟩:=hrel
     obtain⟨w5,rfl⟩:∃x,x=wr:=⟨wr,rfl⟩
     have hw5:Below w.heap.size w w5:=(aA2 w _).trans (hbl5.mono (by omega))
     have z5:w0.heap.size<w5.heap.size:=(Array.getElem?_eq_some_iff.1 hk5).1
     have t5:=TC w5 hk5
     by_cases hjl:j<(tth types k).fields.length
     ·obtain⟨b2,off2,na,nc,rfl,hfr2,hcs2⟩:=hfs.at hB j hjl
      obtain⟨c0,c1,c2,c3,c4,c5,c6,c7⟩:=hcs2 w5 hw5
      have hsf:=aOM (tth types k) j hjl hszT
      have hln:=aEH (tth types k).fields (j+1) _ hjl
      rw[aB5,List.length_append] at hln
      have hys:y.size=(aAK ⟨pname,types⟩).length+(aAX types k).length+(aBD (tth types k)).length+(aB5 (tth types k).fields j).length:=by rw[←tl,HY.out,List.length_append,List.length_append,List.length_append]
      have b9:y.size+(aGV (fth (tth types k).fields j)).size≤9223372036854775807:=by rw[tl] at hln;omega
      obtain⟨-,-,-,-,-,-,-,-,hSt,hncc,-,-⟩:=hfr2.vals
      have hwl:=aKF (fth (tth types k).fields j).name (fth (tth types k).fields j).of (fth (tth types k).fields j).list (fth (tth types k).fields j).must (fth (tth types k).fields j).far (fth (tth types k).fields j).hidden (fth (tth types k).fields j).shared (fth (tth types k).fields j).needs w5 na nc ((hSt.under (hw5.mono hB)).sub fun q hq=>by omega) hsf
      rw[show(⟨(fth (tth types k).fields j).name,(fth (tth types k).fields j).of,(fth (tth types k).fields j).list,(fth (tth types k).fields j).must,(fth (tth types k).fields j).far,(fth (tth types k).fields j).hidden,(fth (tth types k).fields j).shared,(fth (tth types k).fields j).needs⟩:F)=fth (tth types k).fields j from rfl] at hwl
      clear hcs2 hys hln
      go_wp2_with (
       go_at_call 104
       refine hwl.mono ?_
       rintro e w6 ⟨rfl,hb6⟩)
      go_roundw
      case rel=>exact⟨j+1,_,by omega,by go_num,rfl,by show _=_;rw[aB5,aAD,HY.out];simp only[List.append_assoc],hbl5.trans (hb6.mono (by omega)),(hb6.block _ z5).trans hk5⟩
      case measure=>simp[intOf];omega
     ·go_wp2_with fail
      go_roundw
      case rel=>
       have ej:j=(tth types k).fields.length:=by omega
       exact⟨k+1,y,by omega,by go_num,rfl,by show _=_;rw[HY.out,aAX,ej];simp only[List.append_assoc],hbl5⟩
      case measure=>simp[intOf];omega
   ·have hkl:keyL (tth types k)=[]:=by rw[keyL,if_pos hke]
    go_wp2_with fail
    have HTH:Hid ((x++⟨#[116,121,112,101,32]⟩++(tth types k).name++⟨#[10]⟩:ByteArray).data.toList=aAK ⟨pname,types⟩++aAX types k++aBD (tth types k)++aB5 (tth types k).fields 0):=by
     show _=_
     rw[aAD,aAD,aAD,HX.out,aB5,List.append_nil,HTY.out,hkl];simp
    have TC:∀W:World,W.heap[w0.heap.size]?=some (.cells #[.string (tth types k).name,.string (tth types k).key,.slice fa (tth types k).fields.length fc] 96 (0,0))→W.cell? ⟨w0.heap.size,2,none⟩=some (.slice fa (tth types k).fields.length fc):=fun W h=>(aA1 h 2 (by simp)).1
    go_loopw [3,6] (fun o i w2=>∃j:Nat,∃y:ByteArray,j≤(tth types k).fields.length∧i=.int .i64 j∧o=.string y∧Hid (y.data.toList=aAK ⟨pname,types⟩++aAX types k++aBD (tth types k)++aB5 (tth types k).fields j)∧Below (w.heap.size+1) (w.alloc (.cells #[.string pname,.slice (some ⟨b,off,none⟩) types.length tc] 46)) w2∧w2.heap[w0.heap.size]?=some (.cells #[.string (tth types k).name,.string (tth types k).key,.slice fa (tth types k).fields.length fc] 96 (0,0))) (fun _ i _=>(tth types k).fields.length- (intOf i).toNat)
    case atStart=>exact⟨0,_,Nat.zero_le _,rfl,rfl,HTH,hbl.alloc (by omega) _,hk0⟩
    case round=>
     obtain⟨j,y,hj,rfl,rfl,HY,hbl5,hk5⟩:=hrel
     obtain⟨w5,rfl⟩:∃x,x=wr:=⟨wr,rfl⟩
     have hw5:Below w.heap.size w w5:=(aA2 w _).trans (hbl5.mono (by omega))
     have z5:w0.heap.size<w5.heap.size:=(Array.getElem?_eq_some_iff.1 hk5).1
     have t5:=TC w5 hk5
     by_cases hjl:j<(tth types k).fields.length
     ·obtain⟨b2,off2,na,nc,rfl,hfr2,hcs2⟩:=hfs.at hB j hjl
      obtain⟨c0,c1,c2,c3,c4,c5,c6,c7⟩:=hcs2 w5 hw5
      have hsf:=aOM (tth types k) j hjl hszT
      have hln:=aEH (tth types k).fields (j+1) _ hjl
      rw[aB5,List.length_append] at hln
      have hys:y.size=(aAK ⟨pname,types⟩).length+(aAX types k).length+(aBD (tth types k)).length+(aB5 (tth types k).fields j).length:=by rw[←tl,HY.out,List.length_append,List.length_append,List.length_append]
      have b9:y.size+(aGV (fth (tth types k).fields j)).size≤9223372036854775807:=by rw[tl] at hln;omega
      obtain⟨-,-,-,-,-,-,-,-,hSt,hncc,-,-⟩:=hfr2.vals
      have hwl:=aKF (fth (tth types k).fields j).name (fth (tth types k).fields j).of (fth (tth types k).fields j).list (fth (tth types k).fields j).must (fth (tth types k).fields j).far (fth (tth types k).fields j).hidden (fth (tth types k).fields j).shared (fth (tth types k).fields j).needs w5 na nc ((hSt.under (hw5.mono hB)).sub fun q hq=>by omega) hsf
      rw[show(⟨(fth (tth types k).fields j).name,(fth (tth types k).fields j).of,(fth (tth types k).fields j).list,(fth (tth types k).fields j).must,(fth (tth types k).fields j).far,(fth (tth types k).fields j).hidden,(fth (tth types k).fields j).shared,(fth (tth types k).fields j).needs⟩:F)=fth (tth types k).fields j from rfl] at hwl
      clear hcs2 hys hln
      go_wp2_with (
       go_at_call 104
       refine hwl.mono ?_
       rintro e w6 ⟨rfl,hb6⟩)
      go_roundw
      case rel=>exact⟨j+1,_,by omega,by go_num,rfl,by show _=_;rw[aB5,aAD,HY.out];simp only[List.append_assoc],hbl5.trans (hb6.mono (by omega)),(hb6.block _ z5).trans hk5⟩
      case measure=>simp[intOf];omega
     ·go_wp2_with fail
      go_roundw
      case rel=>
       have ej:j=(tth types k).fields.length:=by omega
       exact⟨k+1,y,by omega,by go_num,rfl,by show _=_;rw[HY.out,aAX,ej];simp only[List.append_assoc],hbl5⟩
      case measure=>simp[intOf];omega
  ·go_wp2_with fail
   have ek:k=types.length:=by omega
   have hxe:x=⟨(aCR ⟨pname,types⟩).toArray⟩:=by apply ByteArray.ext;apply Array.toList_inj.1;rw[HX.out,HP0.out,ek]
   go_ret
   exact⟨by rw[←hxe];rfl,hbw⟩
end Go.Proofs.YtcebpkeiaiiphaaGreatDoor
namespace Go.Proofs.YtcebpkeiaiiphaaGreatDoor
open Go.RowKit Go.Maps
attribute [local go_sem] Oper.semAt_some
set_option maxRecDepth 20000 in
set_option maxHeartbeats 3200000 in
theorem aRY(t:T)(f:F)(fa na:Option Addr)(fc nc:Nat)(w:World)(P Q:Nat→Prop)(hT:TRep w P t (.agg #[.string t.name,.string t.key,.slice fa t.fields.length fc]))(hF:FRep w Q f (fval f na nc))(hP:∀b,P b→b<w.heap.size)(hQ:∀b,Q b→b<w.heap.size)(hl:t.fields.length≤1000000000)(hl2:f.needs.length≤1000000000)(k:Nat)(hx:aAC t f.name=(k:Int))(hk:k<t.fields.length):
  Calls Tryz.prog 71 #[.agg #[.string t.name,.string t.key,.slice fa t.fields.length fc],fval f na nc] w fun e w'=>∃fa' fc',e=.returned (.agg #[.string t.name,.string t.key,.slice fa' (putF t f).fields.length fc'])∧TRep w' (fun b=>P b∨Q b∨(w.heap.size≤b∧b<w'.heap.size)) (putF t f) (.agg #[.string t.name,.string t.key,.slice fa' (putF t f).fields.length fc'])∧Below w.heap.size w w':=by
 obtain⟨iF,zF,hiF,hF0,hF1,hF2,hFz⟩:=aDT
 obtain⟨i9,hi9,hy0,hy1,hy2⟩:=info_parts aQ7
 obtain⟨X,hXe⟩:∃X,X=((w.alloc (.cells #[.string t.name,.string t.key,.slice fa t.fields.length fc] 96)).alloc (.cells #[.string f.name,.string f.of,.bool f.list,.bool f.must,.bool f.far,.bool f.hidden,.bool f.shared,.slice na f.needs.length nc] 80)).alloc (.cells #[.string ⟨#[]⟩,.string ⟨#[]⟩,.slice none 0 0] 96):=⟨_,rfl⟩
 have zX:X.heap.size=w.heap.size+3:=by rw[hXe];simp
 have bw:Below w.heap.size w X:=by rw[hXe];exact(((Below.refl _ _).alloc (Nat.le_refl _) _).alloc (by simp) _).alloc (by simp<;>omega) _
 have n0:X.heap[w.heap.size]?=some (.cells #[.string t.name,.string t.key,.slice fa t.fields.length fc] 96 (0,0)):=by
  rw[hXe,(aA2 _ _).block _ (by simp<;>omega),(aA2 _ _).block _ (by simp)]
  exact aA3 _ _ rfl
 have n1:X.heap[w.heap.size+1]?=some (.cells #[.string f.name,.string f.of,.bool f.list,.bool f.must,.bool f.far,.bool f.hidden,.bool f.shared,.slice na f.needs.length nc] 80 (0,0)):=by
  rw[hXe,(aA2 _ _).block _ (by simp)]
  exact aA3 _ _ (by simp)
 have n2:X.heap[w.heap.size+1+1]?=some (.cells #[.string ⟨#[]⟩,.string ⟨#[]⟩,.slice none 0 0] 96 (0,0)):=by
  rw[hXe]
  exact aA3 _ _ (by simp)
 have HX:Hid (∀W,Below X.heap.size X W→(W.cell? ⟨w.heap.size,0,none⟩=some (.string t.name)∧W.cell? ⟨w.heap.size,1,none⟩=some (.string t.key)∧W.cell? ⟨w.heap.size,2,none⟩=some (.slice fa t.fields.length fc))∧(W.cell? ⟨w.heap.size+1,0,none⟩=some (.string f.name)∧W.cell? ⟨w.heap.size+1,1,none⟩=some (.string f.of)∧W.cell? ⟨w.heap.size+1,2,none⟩=some (.bool f.list)∧W.cell? ⟨w.heap.size+1,3,none⟩=some (.bool f.must)∧W.cell? ⟨w.heap.size+1,4,none⟩=some (.bool f.far)∧W.cell? ⟨w.heap.size+1,5,none⟩=some (.bool f.hidden)∧W.cell? ⟨w.heap.size+1,6,none⟩=some (.bool f.shared)∧W.cell? ⟨w.heap.size+1,7,none⟩=some (.slice na f.needs.length nc))∧W.heap[w.heap.size]?=some (.cells #[.string t.name,.string t.key,.slice fa t.fields.length fc] 96 (0,0))∧W.heap[w.heap.size+1+1]?=some (.cells #[.string ⟨#[]⟩,.string ⟨#[]⟩,.slice none 0 0] 96 (0,0))∧Below w.heap.size w W):=aA0 fun W hW=>by
  have h0:=(hW.block _ (by omega)).trans n0
  have h1:=(hW.block _ (by omega)).trans n1
  exact⟨⟨(aA1 h0 0 (by simp)).1,(aA1 h0 1 (by simp)).1,(aA1 h0 2 (by simp)).1⟩,⟨(aA1 h1 0 (by simp)).1,(aA1 h1 1 (by simp)).1,(aA1 h1 2 (by simp)).1,(aA1 h1 3 (by simp)).1,(aA1 h1 4 (by simp)).1,(aA1 h1 5 (by simp)).1,(aA1 h1 6 (by simp)).1,(aA1 h1 7 (by simp)).1⟩,h0,(hW.block _ (by omega)).trans n2,bw.trans (hW.mono (by omega))⟩
 have hT':=hT
 obtain⟨fa',fc',e,hFs,-⟩:=hT
 simp only[Value.agg.injEq,Array.mk.injEq,List.cons.injEq,Value.slice.injEq,true_and,and_true] at e
 obtain⟨rfl,rfl⟩:=e
 obtain⟨h64,Cf,hAr,hCr⟩:=hFs
 have HLF:Hid (∀W,Below X.heap.size X W→aF6 W fa t.fields.length (aCL Cf t.fields.length)):=aA0 fun W hW=>aKC (hAr.mono fun b hb=>(HX.out W hW).2.2.2.2.block b (hP b hb))
 have HOF:Hid (∀u∈ aCL Cf t.fields.length,u.oneCell'=true):=aA0 (aLW hCr)
 have HNS:Hid (Strs w Q f.needs na):=aA0 (by
  obtain⟨na',nc',e,h1,-⟩:=hF
  unfold fval at e
  simp only[Value.agg.injEq,Array.mk.injEq,List.cons.injEq,Value.slice.injEq,true_and,and_true] at e
  obtain⟨rfl,rfl⟩:=e
  exact h1)
 have HLN:Hid (∀W,Below X.heap.size X W→aF6 W na f.needs.length (f.needs.map Value.string)):=aA0 fun W hW=>aGY (HNS.out.mono fun b hb=>(HX.out W hW).2.2.2.2.block b (hQ b hb))
 have HFI:=aA0 (fun W (hW:Below X.heap.size X W)=>aCV t W w.heap.size _ f.name ((hT'.mono fun b hb=>(HX.out W hW).2.2.2.2.block b (hP b hb)).sub fun b hb=>hP b hb) (HX.out W hW).2.2.2.2.size)
 have HFX:Hid (aAC t f.name=aA9 (fun i=>(fth t.fields i).name.toList==f.name.toList) t.fields.length):=aA0 rfl
 rw[←HFX.out,hx] at HFI
 have HCR:=aA0 (And.intro hAr hCr)
 have HT':=aA0 hT'
 have HF':=aA0 hF
 obtain⟨⟨x0,x1,x2⟩,⟨y0,-⟩,-⟩:=HX.out X (Below.refl _ _)
 rw[hXe] at x0 x1 x2 y0
 unfold fval
 go_enter Tryz.func71,Tryz.ntmps71
 clear hAr hCr hT' hF n0 n1 n2 HFX
 go_wp2_with fail
 clear x0 x1 x2 y0
 rw[←hXe]
 clear hXe
 refine(HFI.out X (Below.refl _ _)).mono ?_
 rintro e w1 ⟨rfl,hb1⟩
 have zw1:=hb1.size
 have nA:=aA3 (w:=w1) (N:=w1.heap.size) #[] 80 rfl
 have bA:=hb1.trans ((aA2 w1 (.cells #[] 80)).mono hb1.size)
 have c2:=(HX.out _ bA).1.2.2
 go_wp2_with (
  at_builtin
  refine aCX rfl _ _ 94 rfl X.heap.size 80 iF zF 8 64 Tryz.underlying94 hiF hF0 hF1 hF2 hFz (by decide) w1.heap.size 0 0 [] rfl ⟨rfl,Or.inr ⟨_,0,_,rfl,hb1.size,nA,Nat.le_refl _,by unfold maxLen;omega,rfl,rfl⟩⟩ fa t.fields.length fc (aCL Cf t.fields.length) rfl (aD4 _ _) (HLF.out _ bA) HOF.out (by unfold maxLen;omega) (by omega) bA.size ?_
  intro gB capB wB oB hgrB hatB
  refine Hid.out ?_)
 refine aA0 ?_
 have bB:=bA.grown hgrB bA.size (fun k hk=>by cases hk;exact hb1.size)
 simp only[Nat.zero_add,List.nil_append] at oB ⊢
 have qB:=(oB.lt gB rfl).1
 clear c2 nA bA hgrB hatB
 have hcf:t.fields.length≤capB:=by obtain⟨-,h| ⟨_,_,_,h,-,-,h2,-⟩⟩:=oB<;>simp_all
 cases hh:f.hidden
 ·have y5:=(HX.out _ bB).2.1.2.2.2.2.2.1
  rw[hh] at y5
  have bH:=bB
  have oH:=oB
  rcases Nat.eq_zero_or_pos f.needs.length with hn| hn
  ·have y7:=(HX.out _ bH).2.1.2.2.2.2.2.2.2
   rw[hn] at y7
   have bX:=bH
   have oX:(wB).ownsRow X.heap.size 80 8 (.slice (some ⟨gB,0,none⟩) t.fields.length capB) t.fields.length (aHP none k (aEA f.hidden k (aCL Cf t.fields.length))):=by rw[hh];exact oH
   clear oB oH
   have c2:=(HX.out _ bX).1.2.2
   have z2:=(aA1 (HX.out _ bX).2.2.1 2 (by simp)).2
   have hn0:((wB).setCell ⟨w.heap.size,2,none⟩ (.slice (some ⟨gB,0,none⟩) t.fields.length capB)).heap[w.heap.size]?=some (.cells #[.string t.name,.string t.key,(.slice (some ⟨gB,0,none⟩) t.fields.length capB)] 96 (0,0)):=aAB (HX.out _ bX).2.2.1 2 _
   have hkS:∀b,b≠w.heap.size→((wB).setCell ⟨w.heap.size,2,none⟩ (.slice (some ⟨gB,0,none⟩) t.fields.length capB)).heap[b]?=(wB).heap[b]?:=fun b hb=>Below.heap_setCell _ _ _ _ hb
   have hn2:=(hkS (w.heap.size+1+1) (by omega)).trans (HX.out _ bX).2.2.2.1
   have bS:Below w.heap.size w ((wB).setCell ⟨w.heap.size,2,none⟩ (.slice (some ⟨gB,0,none⟩) t.fields.length capB)):=(HX.out _ bX).2.2.2.2.setCell (Nat.le_refl _) _
   have oS:=aB4 oX fun j hj=>by cases hj;exact hkS gB (by omega)
   have ho:=True.intro
   have HO:=aA0 (And.intro oS ho)
   have HBS:=aA0 bS
   obtain⟨a0,-⟩:=aA1 hn0 0 (by simp)
   obtain⟨a1,-⟩:=aA1 hn0 1 (by simp)
   obtain⟨a2,-⟩:=aA1 hn0 2 (by simp)
   obtain⟨r0,s0⟩:=aA1 hn2 0 (by simp)
   obtain⟨r1,s1⟩:=aA1 hn2 1 (by simp)
   obtain⟨r2,s2⟩:=aA1 hn2 2 (by simp)
   clear oX oS ho hkS bS bX
   go_wp2_with fail
   obtain⟨d0,d1,d2⟩:=aDR hn2 rfl (.string t.name) (.string t.key) (.slice (some ⟨gB,0,none⟩) t.fields.length capB)
   refine bodyPost_ret (aEJ _ _ (w.heap.size+1+1) _ _ _ rfl d0 d1 d2) rfl ?_
   exact aLL HT'.out HF'.out hP hl hl2 hx hk HCR.out.2 (by omega) (by omega) (by omega) HO.out.1 (Or.inl ⟨hn,rfl⟩) hcf HBS.out _ _ _ _ rfl
  ·have y7:=(HX.out _ bH).2.1.2.2.2.2.2.2.2
   have bC:=bH.trans ((aA2 (wB) (.cells #[] 9)).mono bH.size)
   have y7':=(HX.out _ bC).2.1.2.2.2.2.2.2.2
   have nC:=aA3 (w:=wB) (N:=wB.heap.size) #[] 9 (by simp)
   have zC:=bB.size
   have lB:=(oH.lt gB rfl).2
   go_wp2_with (
    at_builtin
    refine aCX rfl _ _ 33 rfl X.heap.size 9 i9 (.string ByteArray.empty) 1 16 Tryz.underlying33 hi9 hy0 hy1 hy2 rfl (by decide) wB.heap.size 0 0 [] rfl ⟨rfl,Or.inr ⟨_,0,_,rfl,zC,nC,Nat.le_refl _,by unfold maxLen;omega,rfl,rfl⟩⟩ na f.needs.length nc (f.needs.map Value.string) rfl (by simp) (HLN.out _ bC) (aER _) (by unfold maxLen;omega) (by omega) bC.size ?_
    intro gD capD wD2 oD hgrD hatD
    refine Hid.out ?_)
   refine aA0 ?_
   have hkD:∀b,b<(wB).heap.size→wD2.heap[b]?=(wB).heap[b]?:=fun b hb=>(hgrD.block b (by simp at hb ⊢;omega) (fun e=>by simp at hb e;omega)).trans ((aA2 (wB) (.cells #[] 9)).block b hb)
   have bD:=bC.grown hgrD bC.size (fun k hk=>by cases hk;exact zC)
   have hDB:gD≠gB:=by simp at lB hatD;omega
   simp only[Nat.zero_add,List.nil_append] at oD ⊢
   have oE:wD2.ownsRow X.heap.size 80 8 (.slice (some ⟨gB,0,none⟩) t.fields.length capB) t.fields.length (aHP none k (aEA f.hidden k (aCL Cf t.fields.length))):=by rw[hh];exact aB4 oH fun j hj=>by cases hj;exact hkD gB lB
   have z7:=oE.frozenAt (k*8+7)
   have x7:=(oE.cellAt (k*8+7) (by omega)).trans (aKV f.hidden none k t.fields.length Cf k 7 hk (by omega))
   have oX:(wD2.setCell ⟨gB,k*8+7,none⟩ (.slice (some ⟨gD,0,none⟩) f.needs.length capD)).ownsRow X.heap.size 80 8 (.slice (some ⟨gB,0,none⟩) t.fields.length capB) t.fields.length (aHP (some (.slice (some ⟨gD,0,none⟩) f.needs.length capD)) k (aEA f.hidden k (aCL Cf t.fields.length))):=(oE.stored (k*8+7) (.slice (some ⟨gD,0,none⟩) f.needs.length capD)).1
   have bX:=bD.setCell (show X.heap.size≤(⟨gB,k*8+7,none⟩:Addr).block from qB) (.slice (some ⟨gD,0,none⟩) f.needs.length capD)
   have oD2:=aB4 (w':=wD2.setCell ⟨gB,k*8+7,none⟩ (.slice (some ⟨gD,0,none⟩) f.needs.length capD)) oD fun j hj=>by cases hj;exact Below.heap_setCell _ _ _ _ hDB
   have hcd:f.needs.length≤capD:=by obtain⟨-,h| ⟨_,_,_,h,-,-,h2,-⟩⟩:=oD<;>simp_all
   have qD:=(oD.lt gD rfl).1
   clear nC y7 y7' hgrD hatD hkD oB oH oE bC bD bH oD
   have c2:=(HX.out _ bX).1.2.2
   have z2:=(aA1 (HX.out _ bX).2.2.1 2 (by simp)).2
   have hn0:((wD2.setCell ⟨gB,k*8+7,none⟩ (.slice (some ⟨gD,0,none⟩) f.needs.length capD)).setCell ⟨w.heap.size,2,none⟩ (.slice (some ⟨gB,0,none⟩) t.fields.length capB)).heap[w.heap.size]?=some (.cells #[.string t.name,.string t.key,(.slice (some ⟨gB,0,none⟩) t.fields.length capB)] 96 (0,0)):=aAB (HX.out _ bX).2.2.1 2 _
   have hkS:∀b,b≠w.heap.size→((wD2.setCell ⟨gB,k*8+7,none⟩ (.slice (some ⟨gD,0,none⟩) f.needs.length capD)).setCell ⟨w.heap.size,2,none⟩ (.slice (some ⟨gB,0,none⟩) t.fields.length capB)).heap[b]?=(wD2.setCell ⟨gB,k*8+7,none⟩ (.slice (some ⟨gD,0,none⟩) f.needs.length capD)).heap[b]?:=fun b hb=>Below.heap_setCell _ _ _ _ hb
   have hn2:=(hkS (w.heap.size+1+1) (by omega)).trans (HX.out _ bX).2.2.2.1
   have bS:Below w.heap.size w ((wD2.setCell ⟨gB,k*8+7,none⟩ (.slice (some ⟨gD,0,none⟩) f.needs.length capD)).setCell ⟨w.heap.size,2,none⟩ (.slice (some ⟨gB,0,none⟩) t.fields.length capB)):=(HX.out _ bX).2.2.2.2.setCell (Nat.le_refl _) _
   have oS:=aB4 oX fun j hj=>by cases hj;exact hkS gB (by omega)
   have ho:=And.intro hcd (aB4 oD2 fun j hj=>by cases hj;exact hkS gD (by omega))
   clear oD2
   have HO:=aA0 (And.intro oS ho)
   have HBS:=aA0 bS
   obtain⟨a0,-⟩:=aA1 hn0 0 (by simp)
   obtain⟨a1,-⟩:=aA1 hn0 1 (by simp)
   obtain⟨a2,-⟩:=aA1 hn0 2 (by simp)
   obtain⟨r0,s0⟩:=aA1 hn2 0 (by simp)
   obtain⟨r1,s1⟩:=aA1 hn2 1 (by simp)
   obtain⟨r2,s2⟩:=aA1 hn2 2 (by simp)
   clear oX oS ho hkS bS bX
   go_wp2_with fail
   obtain⟨d0,d1,d2⟩:=aDR hn2 rfl (.string t.name) (.string t.key) (.slice (some ⟨gB,0,none⟩) t.fields.length capB)
   refine bodyPost_ret (aEJ _ _ (w.heap.size+1+1) _ _ _ rfl d0 d1 d2) rfl ?_
   exact aLL HT'.out HF'.out hP hl hl2 hx hk HCR.out.2 (by omega) (by omega) (by omega) HO.out.1 (Or.inr ⟨by omega,gD,capD,rfl,HO.out.2.1,HO.out.2.2⟩) hcf HBS.out _ _ _ _ rfl
 ·have y5:=(HX.out _ bB).2.1.2.2.2.2.2.1
  rw[hh] at y5
  have z5:=oB.frozenAt (k*8+5)
  have x5:=oB.cellAt (k*8+5) (by omega)
  rw[aL2 _ _ _ _ hk (by omega)] at x5
  have bH:=bB.setCell (show X.heap.size≤(⟨gB,k*8+5,none⟩:Addr).block from qB) (.bool true)
  have oH:=(oB.stored (k*8+5) (.bool true)).1
  rcases Nat.eq_zero_or_pos f.needs.length with hn| hn
  ·have y7:=(HX.out _ bH).2.1.2.2.2.2.2.2.2
   rw[hn] at y7
   have bX:=bH
   have oX:(wB.setCell ⟨gB,k*8+5,none⟩ (.bool true)).ownsRow X.heap.size 80 8 (.slice (some ⟨gB,0,none⟩) t.fields.length capB) t.fields.length (aHP none k (aEA f.hidden k (aCL Cf t.fields.length))):=by rw[hh];exact oH
   clear oB oH
   have c2:=(HX.out _ bX).1.2.2
   have z2:=(aA1 (HX.out _ bX).2.2.1 2 (by simp)).2
   have hn0:((wB.setCell ⟨gB,k*8+5,none⟩ (.bool true)).setCell ⟨w.heap.size,2,none⟩ (.slice (some ⟨gB,0,none⟩) t.fields.length capB)).heap[w.heap.size]?=some (.cells #[.string t.name,.string t.key,(.slice (some ⟨gB,0,none⟩) t.fields.length capB)] 96 (0,0)):=aAB (HX.out _ bX).2.2.1 2 _
   have hkS:∀b,b≠w.heap.size→((wB.setCell ⟨gB,k*8+5,none⟩ (.bool true)).setCell ⟨w.heap.size,2,none⟩ (.slice (some ⟨gB,0,none⟩) t.fields.length capB)).heap[b]?=(wB.setCell ⟨gB,k*8+5,none⟩ (.bool true)).heap[b]?:=fun b hb=>Below.heap_setCell _ _ _ _ hb
   have hn2:=(hkS (w.heap.size+1+1) (by omega)).trans (HX.out _ bX).2.2.2.1
   have bS:Below w.heap.size w ((wB.setCell ⟨gB,k*8+5,none⟩ (.bool true)).setCell ⟨w.heap.size,2,none⟩ (.slice (some ⟨gB,0,none⟩) t.fields.length capB)):=(HX.out _ bX).2.2.2.2.setCell (Nat.le_refl _) _
   have oS:=aB4 oX fun j hj=>by cases hj;exact hkS gB (by omega)
   have ho:=True.intro
   have HO:=aA0 (And.intro oS ho)
   have HBS:=aA0 bS
   obtain⟨a0,-⟩:=aA1 hn0 0 (by simp)
   obtain⟨a1,-⟩:=aA1 hn0 1 (by simp)
   obtain⟨a2,-⟩:=aA1 hn0 2 (by simp)
   obtain⟨r0,s0⟩:=aA1 hn2 0 (by simp)
   obtain⟨r1,s1⟩:=aA1 hn2 1 (by simp)
   obtain⟨r2,s2⟩:=aA1 hn2 2 (by simp)
   clear oX oS ho hkS bS bX
   go_wp2_with fail
   obtain⟨d0,d1,d2⟩:=aDR hn2 rfl (.string t.name) (.string t.key) (.slice (some ⟨gB,0,none⟩) t.fields.length capB)
   refine bodyPost_ret (aEJ _ _ (w.heap.size+1+1) _ _ _ rfl d0 d1 d2) rfl ?_
   exact aLL HT'.out HF'.out hP hl hl2 hx hk HCR.out.2 (by omega) (by omega) (by omega) HO.out.1 (Or.inl ⟨hn,rfl⟩) hcf HBS.out _ _ _ _ rfl
  ·have y7:=(HX.out _ bH).2.1.2.2.2.2.2.2.2
   have bC:=bH.trans ((aA2 (wB.setCell ⟨gB,k*8+5,none⟩ (.bool true)) (.cells #[] 9)).mono bH.size)
   have y7':=(HX.out _ bC).2.1.2.2.2.2.2.2.2
   have nC:=aA3 (w:=wB.setCell ⟨gB,k*8+5,none⟩ (.bool true)) (N:=wB.heap.size) #[] 9 (by simp)
   have zC:=bB.size
   have lB:=(oH.lt gB rfl).2
   go_wp2_with (
    at_builtin
    refine aCX rfl _ _ 33 rfl X.heap.size 9 i9 (.string ByteArray.empty) 1 16 Tryz.underlying33 hi9 hy0 hy1 hy2 rfl (by decide) wB.heap.size 0 0 [] rfl ⟨rfl,Or.inr ⟨_,0,_,rfl,zC,nC,Nat.le_refl _,by unfold maxLen;omega,rfl,rfl⟩⟩ na f.needs.length nc (f.needs.map Value.string) rfl (by simp) (HLN.out _ bC) (aER _) (by unfold maxLen;omega) (by omega) bC.size ?_
    intro gD capD wD2 oD hgrD hatD
    refine Hid.out ?_)
   refine aA0 ?_
   have hkD:∀b,b<(wB.setCell ⟨gB,k*8+5,none⟩ (.bool true)).heap.size→wD2.heap[b]?=(wB.setCell ⟨gB,k*8+5,none⟩ (.bool true)).heap[b]?:=fun b hb=>(hgrD.block b (by simp at hb ⊢;omega) (fun e=>by simp at hb e;omega)).trans ((aA2 (wB.setCell ⟨gB,k*8+5,none⟩ (.bool true)) (.cells #[] 9)).block b hb)
   have bD:=bC.grown hgrD bC.size (fun k hk=>by cases hk;exact zC)
   have hDB:gD≠gB:=by simp at lB hatD;omega
   simp only[Nat.zero_add,List.nil_append] at oD ⊢
   have oE:wD2.ownsRow X.heap.size 80 8 (.slice (some ⟨gB,0,none⟩) t.fields.length capB) t.fields.length (aHP none k (aEA f.hidden k (aCL Cf t.fields.length))):=by rw[hh];exact aB4 oH fun j hj=>by cases hj;exact hkD gB lB
   have z7:=oE.frozenAt (k*8+7)
   have x7:=(oE.cellAt (k*8+7) (by omega)).trans (aKV f.hidden none k t.fields.length Cf k 7 hk (by omega))
   have oX:(wD2.setCell ⟨gB,k*8+7,none⟩ (.slice (some ⟨gD,0,none⟩) f.needs.length capD)).ownsRow X.heap.size 80 8 (.slice (some ⟨gB,0,none⟩) t.fields.length capB) t.fields.length (aHP (some (.slice (some ⟨gD,0,none⟩) f.needs.length capD)) k (aEA f.hidden k (aCL Cf t.fields.length))):=(oE.stored (k*8+7) (.slice (some ⟨gD,0,none⟩) f.needs.length capD)).1
   have bX:=bD.setCell (show X.heap.size≤(⟨gB,k*8+7,none⟩:Addr).block from qB) (.slice (some ⟨gD,0,none⟩) f.needs.length capD)
   have oD2:=aB4 (w':=wD2.setCell ⟨gB,k*8+7,none⟩ (.slice (some ⟨gD,0,none⟩) f.needs.length capD)) oD fun j hj=>by cases hj;exact Below.heap_setCell _ _ _ _ hDB
   have hcd:f.needs.length≤capD:=by obtain⟨-,h| ⟨_,_,_,h,-,-,h2,-⟩⟩:=oD<;>simp_all
   have qD:=(oD.lt gD rfl).1
   clear nC y7 y7' hgrD hatD hkD oB oH oE bC bD bH oD
   have c2:=(HX.out _ bX).1.2.2
   have z2:=(aA1 (HX.out _ bX).2.2.1 2 (by simp)).2
   have hn0:((wD2.setCell ⟨gB,k*8+7,none⟩ (.slice (some ⟨gD,0,none⟩) f.needs.length capD)).setCell ⟨w.heap.size,2,none⟩ (.slice (some ⟨gB,0,none⟩) t.fields.length capB)).heap[w.heap.size]?=some (.cells #[.string t.name,.string t.key,(.slice (some ⟨gB,0,none⟩) t.fields.length capB)] 96 (0,0)):=aAB (HX.out _ bX).2.2.1 2 _
   have hkS:∀b,b≠w.heap.size→((wD2.setCell ⟨gB,k*8+7,none⟩ (.slice (some ⟨gD,0,none⟩) f.needs.length capD)).setCell ⟨w.heap.size,2,none⟩ (.slice (some ⟨gB,0,none⟩) t.fields.length capB)).heap[b]?=(wD2.setCell ⟨gB,k*8+7,none⟩ (.slice (some ⟨gD,0,none⟩) f.needs.length capD)).heap[b]?:=fun b hb=>Below.heap_setCell _ _ _ _ hb
   have hn2:=(hkS (w.heap.size+1+1) (by omega)).trans (HX.out _ bX).2.2.2.1
   have bS:Below w.heap.size w ((wD2.setCell ⟨gB,k*8+7,none⟩ (.slice (some ⟨gD,0,none⟩) f.needs.length capD)).setCell ⟨w.heap.size,2,none⟩ (.slice (some ⟨gB,0,none⟩) t.fields.length capB)):=(HX.out _ bX).2.2.2.2.setCell (Nat.le_refl _) _
   have oS:=aB4 oX fun j hj=>by cases hj;exact hkS gB (by omega)
   have ho:=And.intro hcd (aB4 oD2 fun j hj=>by cases hj;exact hkS gD (by omega))
   clear oD2
   have HO:=aA0 (And.intro oS ho)
   have HBS:=aA0 bS
   obtain⟨a0,-⟩:=aA1 hn0 0 (by simp)
   obtain⟨a1,-⟩:=aA1 hn0 1 (by simp)
   obtain⟨a2,-⟩:=aA1 hn0 2 (by simp)
   obtain⟨r0,s0⟩:=aA1 hn2 0 (by simp)
   obtain⟨r1,s1⟩:=aA1 hn2 1 (by simp)
   obtain⟨r2,s2⟩:=aA1 hn2 2 (by simp)
   clear oX oS ho hkS bS bX
   go_wp2_with fail
   obtain⟨d0,d1,d2⟩:=aDR hn2 rfl (.string t.name) (.string t.key) (.slice (some ⟨gB,0,none⟩) t.fields.length capB)
   refine bodyPost_ret (aEJ _ _ (w.heap.size+1+1) _ _ _ rfl d0 d1 d2) rfl ?_
   exact aLL HT'.out HF'.out hP hl hl2 hx hk HCR.out.2 (by omega) (by omega) (by omega) HO.out.1 (Or.inr ⟨by omega,gD,capD,rfl,HO.out.2.1,HO.out.2.2⟩) hcf HBS.out _ _ _ _ rfl
end Go.Proofs.YtcebpkeiaiiphaaGreatDoor
namespace Go.Proofs.YtcebpkeiaiiphaaGreatDoor
open Go.RowKit
end Go.Proofs.YtcebpkeiaiiphaaGreatDoor
