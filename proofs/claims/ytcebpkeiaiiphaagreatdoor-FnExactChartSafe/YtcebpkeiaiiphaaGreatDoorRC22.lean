import Derived.Test.YtcebpkeiaiiphaaGreatDoorRC21
set_option linter.unusedSimpArgs false
set_option linter.unusedVariables false
namespace Go.Proofs.YtcebpkeiaiiphaaGreatDoor
open Go.RowKit
set_option maxHeartbeats 3200000 in
theorem aNE(p:Pt)(w:World)(B:Nat)(v:Value)(hP:PRep w (·<B) p v)(hB:B<=w.heap.size)(hz:szP p<=1048576):
  Calls Tryz.prog 74 #[v] w fun e w'=>e=.returned (.string ⟨(aCU p).toArray⟩)∧Below w.heap.size w w':=by
 have hP':=hP;obtain⟨pname,types⟩:=p;obtain⟨ta,tc,rfl,hK,hnc,hpn⟩:=hP;simp only at hK hnc hpn hP';have h56:=hK.1;have hpl:=aGY ⟨pname,types⟩;have hl2:(aAK ⟨pname,types⟩).length+(aAZ types types.length).length<=34603020:=by rw[<-List.length_append];have:(aAK ⟨pname,types⟩++aAZ types types.length).length<=_:=hpl;omega
 have hpz:pname.size<=1048576:=by have:pname.size+szTs types<=1048576:=hz;omega
 have HP0:Hid (aCU ⟨pname,types⟩=aAK ⟨pname,types⟩++aAZ types types.length):=rfl;have HH:Hid ((⟨#[112,97,114,116,32]⟩++pname++⟨#[10]⟩:ByteArray)=⟨(aAK ⟨pname,types⟩++aAZ types 0).toArray⟩):=by show _=_;apply ByteArray.ext;apply Array.toList_inj.1;rw[aAD,aAD,aAZ,List.append_nil];rfl
 have b1:5+pname.size<=9223372036854775807:=by omega
 have b2:5+pname.size+1<=9223372036854775807:=by omega
 have PC:∀W,Below (w.heap.size+1) (w.alloc (.cells #[.string pname,.slice ta types.length tc] 46)) W->W.cell? ⟨w.heap.size,1,none⟩=some (.slice ta types.length tc):=fun W h=>(h.cell (p:=⟨w.heap.size,1,none⟩) (by show w.heap.size<_;omega)).trans (aBC _ _ 1 (by simp))
 go_enter Tryz.func74,Tryz.ntmps74
 go_wp2_with fail
 go_loopw [3,4] (fun o i wr=>∃k:Nat,∃x:ByteArray,k<=types.length∧i=.int .i64 k∧o=.string x∧Hid (x.data.toList=aAK ⟨pname,types⟩++aAZ types k)∧Below (w.heap.size+1) (w.alloc (.cells #[.string pname,.slice ta types.length tc] 46)) wr) (fun _ i _=>types.length- (intOf i).toNat)
 case atStart=>exact⟨0,_,Nat.zero_le _,rfl,rfl,by show _=_;rw[HH.out],Below.refl _ _⟩
 case round=>
  obtain⟨k,x,hk,rfl,rfl,HX,hbl⟩:=hrel;obtain⟨w0,rfl⟩:∃x,x=wr:=⟨wr,rfl⟩;have hbw:Below w.heap.size w w0:=(aA2 w _).trans (hbl.mono (by omega))
  have pc:=PC w0 hbl;have hz0:=hbl.size;simp at hz0;by_cases hlt:k<types.length
  ·obtain⟨b,off,fa,fc,rfl,htr,hcs⟩:=hK.at hB k hlt;obtain⟨c0,c1,c2⟩:=hcs w0 hbw;obtain⟨fa',fc',e0,e1,e2,hfs,hffc,hs1,hs2⟩:=htr.parts;simp only[Value.slice.injEq] at e2;obtain⟨rfl,-,rfl⟩:=e2;have hf56:=hfs.1;have hszT:=aOO ⟨pname,types⟩ k hlt hz;simp only at hszT;have hszT2:(tth types k).name.size+(tth types k).key.size+szFs (tth types k).fields<=1048576:=hszT;have hlk:=aJD types (k+1) _ hlt;rw[aAZ,List.length_append,List.length_append] at hlk;have hxs:x.size=(aAK ⟨pname,types⟩).length+(aAZ types k).length:=by rw[<-tl,HX.out,List.length_append]
   have b3:x.size+5<=9223372036854775807:=by omega
   have b4:x.size+5+(tth types k).name.size<=9223372036854775807:=by omega
   have b5:x.size+5+(tth types k).name.size+5<=9223372036854775807:=by omega
   have b6:x.size+5+(tth types k).name.size+5+(tth types k).key.size<=9223372036854775807:=by omega
   have b7:x.size+5+(tth types k).name.size+5+(tth types k).key.size+1<=9223372036854775807:=by omega
   have b8:x.size+5+(tth types k).name.size+1<=9223372036854775807:=by omega
   have HTY:Hid (aBF (tth types k)=[116,121,112,101,32]++(tth types k).name.data.toList++keyL (tth types k)++[10]):=rfl;have hk0:=heap_alloc_new w0 (.cells #[.string (tth types k).name,.string (tth types k).key,.slice fa (tth types k).fields.length fc] 96);clear hcs htr e0 e1 hxs;cases hke:(tth types k).key.toList.isEmpty
   ·have hkl:keyL (tth types k)=[32,107,101,121,32]++(tth types k).key.data.toList:=by rw[keyL,if_neg (by rw[hke];simp)]
    go_wp2_with fail
    have HTH:Hid ((x++⟨#[116,121,112,101,32]⟩++(tth types k).name++⟨#[32,107,101,121,32]⟩++(tth types k).key++⟨#[10]⟩:ByteArray).data.toList=aAK ⟨pname,types⟩++aAZ types k++aBF (tth types k)++aB6 (tth types k).fields 0):=by
     show _=_;rw[aAD,aAD,aAD,aAD,aAD,HX.out,aB6,List.append_nil,HTY.out,hkl];simp
    have TC:∀W:World,W.heap[w0.heap.size]?=some (.cells #[.string (tth types k).name,.string (tth types k).key,.slice fa (tth types k).fields.length fc] 96 (0,0))->W.cell? ⟨w0.heap.size,2,none⟩=some (.slice fa (tth types k).fields.length fc):=fun W h=>(aA1 h 2 (by simp)).1
    go_loopw [3,6] (fun o i w2=>∃j:Nat,∃y:ByteArray,j<=(tth types k).fields.length∧i=.int .i64 j∧o=.string y∧Hid (y.data.toList=aAK ⟨pname,types⟩++aAZ types k++aBF (tth types k)++aB6 (tth types k).fields j)∧Below (w.heap.size+1) (w.alloc (.cells #[.string pname,.slice (some ⟨b,off,none⟩) types.length tc] 46)) w2∧w2.heap[w0.heap.size]?=some (.cells #[.string (tth types k).name,.string (tth types k).key,.slice fa (tth types k).fields.length fc] 96 (0,0))) (fun _ i _=>(tth types k).fields.length- (intOf i).toNat)
    case atStart=>exact⟨0,_,Nat.zero_le _,rfl,rfl,HTH,hbl.alloc (by omega) _,hk0⟩
    case round=>
     obtain⟨j,y,hj,rfl,rfl,HY,hbl5,hk5⟩:=hrel;obtain⟨w5,rfl⟩:∃x,x=wr:=⟨wr,rfl⟩;have hw5:Below w.heap.size w w5:=(aA2 w _).trans (hbl5.mono (by omega))
     have z5:w0.heap.size<w5.heap.size:=(Array.getElem?_eq_some_iff.1 hk5).1;have t5:=TC w5 hk5;by_cases hjl:j<(tth types k).fields.length
     ·obtain⟨b2,off2,na,nc,rfl,hfr2,hcs2⟩:=hfs.at hB j hjl;obtain⟨c0,c1,c2,c3,c4,c5,c6,c7⟩:=hcs2 w5 hw5;have hsf:=aOW (tth types k) j hjl hszT;have hln:=aEM (tth types k).fields (j+1) _ hjl;rw[aB6,List.length_append] at hln;have hys:y.size=(aAK ⟨pname,types⟩).length+(aAZ types k).length+(aBF (tth types k)).length+(aB6 (tth types k).fields j).length:=by rw[<-tl,HY.out,List.length_append,List.length_append,List.length_append]
      have b9:y.size+(aGN (fth (tth types k).fields j)).size<=9223372036854775807:=by rw[tl] at hln;omega
      obtain⟨-,-,-,-,-,-,-,-,hSt,hncc,-,-⟩:=hfr2.vals;have hwl:=aKP (fth (tth types k).fields j).name (fth (tth types k).fields j).of (fth (tth types k).fields j).list (fth (tth types k).fields j).must (fth (tth types k).fields j).far (fth (tth types k).fields j).hidden (fth (tth types k).fields j).shared (fth (tth types k).fields j).needs w5 na nc ((hSt.under (hw5.mono hB)).sub fun q hq=>by omega) hsf
      rw[show(⟨(fth (tth types k).fields j).name,(fth (tth types k).fields j).of,(fth (tth types k).fields j).list,(fth (tth types k).fields j).must,(fth (tth types k).fields j).far,(fth (tth types k).fields j).hidden,(fth (tth types k).fields j).shared,(fth (tth types k).fields j).needs⟩:F)=fth (tth types k).fields j from rfl] at hwl
      clear hcs2 hys hln;go_wp2_with (
       go_at_call 104
       refine hwl.mono ?_;rintro e w6 ⟨rfl,hb6⟩)
      go_roundw
      case rel=>exact⟨j+1,_,by omega,by go_num,rfl,by show _=_;rw[aB6,aAD,HY.out];simp only[List.append_assoc],hbl5.trans (hb6.mono (by omega)),(hb6.block _ z5).trans hk5⟩
      case measure=>simp[intOf];omega
     ·go_wp2_with fail
      go_roundw
      case rel=>
       have ej:j=(tth types k).fields.length:=by omega
       exact⟨k+1,y,by omega,by go_num,rfl,by show _=_;rw[HY.out,aAZ,ej];simp only[List.append_assoc],hbl5⟩
      case measure=>simp[intOf];omega
   ·have hkl:keyL (tth types k)=[]:=by rw[keyL,if_pos hke]
    go_wp2_with fail
    have HTH:Hid ((x++⟨#[116,121,112,101,32]⟩++(tth types k).name++⟨#[10]⟩:ByteArray).data.toList=aAK ⟨pname,types⟩++aAZ types k++aBF (tth types k)++aB6 (tth types k).fields 0):=by
     show _=_;rw[aAD,aAD,aAD,HX.out,aB6,List.append_nil,HTY.out,hkl];simp
    have TC:∀W:World,W.heap[w0.heap.size]?=some (.cells #[.string (tth types k).name,.string (tth types k).key,.slice fa (tth types k).fields.length fc] 96 (0,0))->W.cell? ⟨w0.heap.size,2,none⟩=some (.slice fa (tth types k).fields.length fc):=fun W h=>(aA1 h 2 (by simp)).1
    go_loopw [3,6] (fun o i w2=>∃j:Nat,∃y:ByteArray,j<=(tth types k).fields.length∧i=.int .i64 j∧o=.string y∧Hid (y.data.toList=aAK ⟨pname,types⟩++aAZ types k++aBF (tth types k)++aB6 (tth types k).fields j)∧Below (w.heap.size+1) (w.alloc (.cells #[.string pname,.slice (some ⟨b,off,none⟩) types.length tc] 46)) w2∧w2.heap[w0.heap.size]?=some (.cells #[.string (tth types k).name,.string (tth types k).key,.slice fa (tth types k).fields.length fc] 96 (0,0))) (fun _ i _=>(tth types k).fields.length- (intOf i).toNat)
    case atStart=>exact⟨0,_,Nat.zero_le _,rfl,rfl,HTH,hbl.alloc (by omega) _,hk0⟩
    case round=>
     obtain⟨j,y,hj,rfl,rfl,HY,hbl5,hk5⟩:=hrel;obtain⟨w5,rfl⟩:∃x,x=wr:=⟨wr,rfl⟩;have hw5:Below w.heap.size w w5:=(aA2 w _).trans (hbl5.mono (by omega))
     have z5:w0.heap.size<w5.heap.size:=(Array.getElem?_eq_some_iff.1 hk5).1;have t5:=TC w5 hk5;by_cases hjl:j<(tth types k).fields.length
     ·obtain⟨b2,off2,na,nc,rfl,hfr2,hcs2⟩:=hfs.at hB j hjl;obtain⟨c0,c1,c2,c3,c4,c5,c6,c7⟩:=hcs2 w5 hw5;have hsf:=aOW (tth types k) j hjl hszT;have hln:=aEM (tth types k).fields (j+1) _ hjl;rw[aB6,List.length_append] at hln;have hys:y.size=(aAK ⟨pname,types⟩).length+(aAZ types k).length+(aBF (tth types k)).length+(aB6 (tth types k).fields j).length:=by rw[<-tl,HY.out,List.length_append,List.length_append,List.length_append]
      have b9:y.size+(aGN (fth (tth types k).fields j)).size<=9223372036854775807:=by rw[tl] at hln;omega
      obtain⟨-,-,-,-,-,-,-,-,hSt,hncc,-,-⟩:=hfr2.vals;have hwl:=aKP (fth (tth types k).fields j).name (fth (tth types k).fields j).of (fth (tth types k).fields j).list (fth (tth types k).fields j).must (fth (tth types k).fields j).far (fth (tth types k).fields j).hidden (fth (tth types k).fields j).shared (fth (tth types k).fields j).needs w5 na nc ((hSt.under (hw5.mono hB)).sub fun q hq=>by omega) hsf
      rw[show(⟨(fth (tth types k).fields j).name,(fth (tth types k).fields j).of,(fth (tth types k).fields j).list,(fth (tth types k).fields j).must,(fth (tth types k).fields j).far,(fth (tth types k).fields j).hidden,(fth (tth types k).fields j).shared,(fth (tth types k).fields j).needs⟩:F)=fth (tth types k).fields j from rfl] at hwl
      clear hcs2 hys hln;go_wp2_with (
       go_at_call 104
       refine hwl.mono ?_;rintro e w6 ⟨rfl,hb6⟩)
      go_roundw
      case rel=>exact⟨j+1,_,by omega,by go_num,rfl,by show _=_;rw[aB6,aAD,HY.out];simp only[List.append_assoc],hbl5.trans (hb6.mono (by omega)),(hb6.block _ z5).trans hk5⟩
      case measure=>simp[intOf];omega
     ·go_wp2_with fail
      go_roundw
      case rel=>
       have ej:j=(tth types k).fields.length:=by omega
       exact⟨k+1,y,by omega,by go_num,rfl,by show _=_;rw[HY.out,aAZ,ej];simp only[List.append_assoc],hbl5⟩
      case measure=>simp[intOf];omega
  ·go_wp2_with fail
   have ek:k=types.length:=by omega
   have hxe:x=⟨(aCU ⟨pname,types⟩).toArray⟩:=by apply ByteArray.ext;apply Array.toList_inj.1;rw[HX.out,HP0.out,ek]
   go_ret
   exact⟨by rw[<-hxe];rfl,hbw⟩
def aG0(p:Pt):Nat->Nat->Nat
 |k,0=>k
 |k,n+1=>if aAG p k=0 then aG0 p (k+1) n else k
def badT(p:Pt):Nat:=aG0 p 0 p.types.length
def aFH(p:Pt):Value:=
 if 5<p.types.length then .iface 173 (.agg #[.int .i64 6,.iface 171 (.int .i64 6)])
 else if aBB p.name=false then .iface 171 (.int .i64 1)
 else if aB5 p=false then .iface 171 (.int .i64 7)
 else if badT p<p.types.length then .iface 173 (.agg #[.int .i64 ((badT p:Nat)+1:Int),aBT (aAG p (badT p))])
 else if 1500<(aCU p).length then .iface 171 (.int .i64 6) else .nilIface
set_option maxHeartbeats 3200000 in
theorem aCR(p:Pt)(w:World)(B:Nat)(v:Value)(hP:PRep w (·<B) p v)(hB:B<=w.heap.size)(hz:szP p<=1048576):
  Calls Tryz.prog 66 #[v] w fun e w'=>e=.returned (aFH p)∧Below w.heap.size w w':=by
 have hP':=hP;obtain⟨pname,types⟩:=p;obtain⟨ta,tc,rfl,hK,hnc,hpn⟩:=hP;simp only at hK hnc hpn hP';have h56:=hK.1;have hE:Hid (aFH ⟨pname,types⟩=if 5<types.length then .iface 173 (.agg #[.int .i64 6,.iface 171 (.int .i64 6)])
  else if aBB pname=false then .iface 171 (.int .i64 1)
  else if aB5 ⟨pname,types⟩=false then .iface 171 (.int .i64 7)
  else if badT ⟨pname,types⟩<types.length then .iface 173 (.agg #[.int .i64 ((badT ⟨pname,types⟩:Nat)+1:Int),aBT (aAG ⟨pname,types⟩ (badT ⟨pname,types⟩))])
  else if 1500<(aCU ⟨pname,types⟩).length then .iface 171 (.int .i64 6) else .nilIface):=rfl
 have PC:∀W,Below (w.heap.size+1) (w.alloc (.cells #[.string pname,.slice ta types.length tc] 46)) W->W.cell? ⟨w.heap.size,0,none⟩=some (.string pname)∧W.cell? ⟨w.heap.size,1,none⟩=some (.slice ta types.length tc)∧Below w.heap.size w W∧B<=W.heap.size∧w.heap.size+1<=W.heap.size:=fun W h=>by
  have hs:=h.size;simp at hs;exact⟨(h.cell (p:=⟨w.heap.size,0,none⟩) (by show w.heap.size<_;omega)).trans (aBC _ _ 0 (by simp)),(h.cell (p:=⟨w.heap.size,1,none⟩) (by show w.heap.size<_;omega)).trans (aBC _ _ 1 (by simp)),(aA2 w _).trans (h.mono (by omega)),by omega,by omega⟩
 have hT0:=Below.refl (w.heap.size+1) (w.alloc (.cells #[.string pname,.slice ta types.length tc] 46));have hR:=fun W h=>aNZ ⟨pname,types⟩ W B _ (hP'.under ((PC W h).2.2.1.mono hB)) (PC W h).2.2.2.1;have hC:=fun W h k hk=>aL5 ⟨pname,types⟩ k W B _ (hP'.under ((PC W h).2.2.1.mono hB)) hk (PC W h).2.2.2.1;have hX:=fun W h=>aMF ⟨pname,types⟩ W B _ (hP'.under ((PC W h).2.2.1.mono hB)) (PC W h).2.2.2.1 hz;have hN:=fun W=>aDN pname W hpn;by_cases h5:5<types.length
 ·have d:(5:Int)<(types.length:Int):=by omega
  go_enter Tryz.func66,Tryz.ntmps66
  go_wp2_with fail
  go_ret
  exact⟨by rw[hE.out,if_pos h5];rfl,(PC _ hT0).2.2.1⟩
 have d5:¬(5:Int)<(types.length:Int):=by omega
 cases hn:aBB pname
 ·rw[hn] at hN;go_enter Tryz.func66,Tryz.ntmps66
  go_wp2_with (
   go_at_call 94
   refine(hN _).mono ?_;rintro e w1 ⟨rfl,rfl⟩)
  go_ret
  exact⟨by rw[hE.out,if_neg h5,if_pos hn];rfl,(PC _ hT0).2.2.1⟩
 cases hr:aB5 ⟨pname,types⟩
 ·rw[hn] at hN;rw[hr] at hR;go_enter Tryz.func66,Tryz.ntmps66
  go_wp2_with (first
   |(
    go_at_call 94
    refine(hN _).mono ?_;rintro e w1 ⟨rfl,rfl⟩)
   |(
    go_at_call 95
    refine(hR _ hT0).mono ?_;rintro e w2 ⟨rfl,hb2⟩;have hT2:=hT0.trans (hb2.mono (by simp))))
  go_ret
  exact⟨by rw[hE.out,if_neg h5,if_neg (by rw[hn];simp),if_pos hr];rfl,(PC _ hT2).2.2.1⟩
 rw[hn] at hN;rw[hr] at hR;go_enter Tryz.func66,Tryz.ntmps66
 go_wp2_with (first
  |(
   go_at_call 94
   refine(hN _).mono ?_;rintro e w1 ⟨rfl,rfl⟩)
  |(
   go_at_call 95
   refine(hR _ hT0).mono ?_;rintro e w2 ⟨rfl,hb2⟩;have hT2:=hT0.trans (hb2.mono (by simp))
   obtain⟨q20,q21,hw2,hB2,hs2⟩:=PC w2 hT2))
 go_loopw [24] (fun i wr=>∃k:Nat,k<=types.length∧i=.int .i64 k∧Hid (badT ⟨pname,types⟩=aG0 ⟨pname,types⟩ k (types.length- k))∧Below (w.heap.size+1) (w.alloc (.cells #[.string pname,.slice ta types.length tc] 46)) wr) (fun i _=>types.length- (intOf i).toNat)
 case atStart=>exact⟨0,Nat.zero_le _,rfl,rfl,hT2⟩
 case round=>
  clear q20 q21 hw2 hB2 hs2 hT2 hb2;obtain⟨k,hk,rfl,HBD,hbl⟩:=hrel;obtain⟨w0,rfl⟩:∃x,x=wr:=⟨wr,rfl⟩;obtain⟨q0,q1,hw0,hB0,hs0⟩:=PC w0 hbl;by_cases hlt:k<types.length
  ·have hC1:=hC w0 hbl k hlt;have HB2:Hid (badT ⟨pname,types⟩=if aAG ⟨pname,types⟩ k=0 then aG0 ⟨pname,types⟩ (k+1) (types.length- (k+1)) else k):=by
    show _=_;rw[HBD.out,show types.length- k=(types.length- (k+1))+1 by omega,aG0]
   by_cases hc:aAG ⟨pname,types⟩ k=0
   ·rw[hc,show aBT 0=.nilIface from rfl] at hC1
    go_wp2_with (
     go_at_call 96
     refine hC1.mono ?_;rintro e w3 ⟨rfl,hb3⟩;have hT3:=hbl.trans (hb3.mono (by omega)))
    go_roundw
    case rel=>exact⟨k+1,by omega,by go_num,by show _=_;rw[HB2.out,if_pos hc],hT3⟩
    case measure=>simp[intOf];omega
   ·have HBK:Hid (badT ⟨pname,types⟩=k):=by show _=_;rw[HB2.out,if_neg hc]
    have hce:aBT (aAG ⟨pname,types⟩ k)=.iface 171 (.int .i64 (aAG ⟨pname,types⟩ k)):=by rw[aBT,if_neg hc]
    rw[hce] at hC1;go_wp2_with (
     go_at_call 96
     refine hC1.mono ?_;rintro e w3 ⟨rfl,hb3⟩;have hT3:=hbl.trans (hb3.mono (by omega)))
    refine bodyPost_ret (v:=.iface 173 (.agg #[.int .i64 ((k:Nat)+1:Int),.iface 171 (.int .i64 (aAG ⟨pname,types⟩ k))])) ?res rfl ⟨?_,(PC _ hT3).2.2.1⟩;case res=>simp[results,Tryz.results66,go_sem]
    rw[hE.out,if_neg h5,if_neg (by rw[hn];simp),if_neg (by rw[hr];simp),HBK.out,if_pos hlt,hce]
  ·have HBK:Hid (badT ⟨pname,types⟩=types.length):=by
    show _=_;rw[HBD.out,show types.length- k=0 by omega,aG0];omega
   have hX1:=hX w0 hbl;have hln:=aGY ⟨pname,types⟩;have hsz:(⟨(aCU ⟨pname,types⟩).toArray⟩:ByteArray).size=(aCU ⟨pname,types⟩).length:=List.size_toArray;generalize (⟨(aCU ⟨pname,types⟩).toArray⟩:ByteArray)=tx at hX1 hsz;have htz:Hid (tx.size=(aCU ⟨pname,types⟩).length):=hsz;have hsm:tx.size<=9223372036854775807:=by omega
   by_cases hlen:1500<(aCU ⟨pname,types⟩).length
   ·have d:(1500:Int)<(tx.size:Int):=by omega
    clear hsz hln;go_wp2_with (
     go_at_call 97
     refine hX1.mono ?_;rintro e w3 ⟨rfl,hb3⟩;have hT3:=hbl.trans (hb3.mono (by omega)))
    refine bodyPost_ret (v:=.iface 171 (.int .i64 6)) ?res rfl ⟨?_,(PC _ hT3).2.2.1⟩;case res=>simp[results,Tryz.results66,go_sem]
    rw[hE.out,if_neg h5,if_neg (by rw[hn];simp),if_neg (by rw[hr];simp),HBK.out,if_neg (by omega),if_pos hlen]
   ·have d:¬(1500:Int)<(tx.size:Int):=by omega
    clear hsz hln;go_wp2_with (
     go_at_call 97
     refine hX1.mono ?_;rintro e w3 ⟨rfl,hb3⟩;have hT3:=hbl.trans (hb3.mono (by omega)))
    refine bodyPost_ret (v:=.nilIface) ?res rfl ⟨?_,(PC _ hT3).2.2.1⟩;case res=>simp[results,Tryz.results66,go_sem]
    rw[hE.out,if_neg h5,if_neg (by rw[hn];simp),if_neg (by rw[hr];simp),HBK.out,if_neg (by omega),if_neg hlen]
def okP(p:Pt):Bool:=!(decide (5<p.types.length))&&aBB p.name&&aB5 p&&!(decide (badT p<p.types.length))&&!(decide (1500<(aCU p).length))
theorem aFE(p:Pt):∀n k,aG0 p k n<k+n->aAG p (aG0 p k n)≠0
 |0,k,h=>by simp[aG0] at h
 |n+1,k,h=>by
  rw[aG0] at h ⊢;by_cases e:aAG p k=0
  ·rw[if_pos e] at h ⊢;exact aFE p n (k+1) (by omega)
  ·rw[if_neg e];exact e
theorem aFT(p:Pt)(h:okP p=true):aFH p=.nilIface:=by
 simp only[okP,Bool.and_eq_true,Bool.not_eq_true',decide_eq_false_iff_not] at h;obtain⟨⟨⟨⟨a,b⟩,c⟩,d⟩,e⟩:=h;rw[aFH,if_neg a,if_neg (by rw[b];simp),if_neg (by rw[c];simp),if_neg d,if_neg e]
theorem aF0(p:Pt)(h:okP p=false):(∃x,aFH p=.iface 171 (.int .i64 x))∨∃i x,aFH p=.iface 173 (.agg #[.int .i64 i,.iface 171 (.int .i64 x)]):=by
 unfold aFH;by_cases a:5<p.types.length
 ·rw[if_pos a];exact .inr ⟨_,_,rfl⟩
 rw[if_neg a];by_cases b:aBB p.name=false
 ·rw[if_pos b];exact .inl ⟨_,rfl⟩
 rw[if_neg b];by_cases c:aB5 p=false
 ·rw[if_pos c];exact .inl ⟨_,rfl⟩
 rw[if_neg c];by_cases d:badT p<p.types.length
 ·rw[if_pos d];have hb:aAG p (badT p)≠0:=aFE p _ 0 (by rw[Nat.zero_add];exact d)
  exact .inr ⟨((badT p:Nat)+1:Int),aAG p (badT p),by rw[aBT,if_neg hb]⟩
 rw[if_neg d];by_cases e:1500<(aCU p).length
 ·rw[if_pos e];exact .inl ⟨_,rfl⟩
 exfalso
 simp[okP,a,b,c,d,e] at h
theorem aHL(f g:Nat->Nat)(k:Nat)(h:∀i,i≠k->f i=g i):∀n,k<n->((List.range n).map f).sum+g k=((List.range n).map g).sum+f k
 |0,hk=>absurd hk (Nat.not_lt_zero _)
 |n+1,hk=>by
  simp only[List.range_succ,List.map_append,List.map_cons,List.map_nil,List.sum_append,List.sum_cons,List.sum_nil,Nat.add_zero];by_cases e:k=n
  ·subst e;have:(List.range k).map f=(List.range k).map g:=List.map_congr_left fun i hi=>h i (by have:=List.mem_range.1 hi;omega)
   rw[this];omega
  ·have ih:=aHL f g k h n (by omega)
   have:=h n (fun x=>e x.symm);omega
theorem aOK(f g:Nat->Nat)(n:Nat)(h:∀i,i<n->f i=g i):((List.range n).map f).sum=((List.range n).map g).sum:=by
 rw[List.map_congr_left fun i hi=>h i (List.mem_range.1 hi)]
theorem aUZ(f:F):f.of.size<=(ofB f).size:=by
 unfold ofB;split<;>split<;>(first| simp only[ByteArray.size_append,aCB,List.size_toArray,List.length_cons,List.length_nil]| skip)<;>omega
theorem aT0(f:F):f.name.size+f.of.size<=(aH9 f).size:=by
 have:=aUZ f;unfold aH9 shaB hidB farB aJE;split<;>split<;>split<;>split<;>simp only[ByteArray.size_append,aCB,List.size_toArray,List.length_cons,List.length_nil]<;>omega
theorem aMW(f:F):∀k,f.name.size+f.of.size+k+aEH f.needs k<=(aDF f k).size
 |0=>by have:=aT0 f;simp only[aDF,aEH];simp;omega
 |k+1=>by
  have:=aMW f k;rw[aDF,aFS];simp only[ByteArray.size_append,aCB,List.size_toArray,List.length_cons,List.length_nil];omega
theorem aTS(f:F):szF f+1<=(aGN f).data.toList.length:=by
 have h1:=aMW f f.needs.length;have h2:szF f=f.name.size+f.of.size+(f.needs.length+aEH f.needs f.needs.length):=rfl;rw[tl,aGN,ByteArray.size_append];have h3:(⟨#[10]⟩:ByteArray).size=1:=rfl;omega
theorem aKX(fs:List F):∀n,aBE fs n+n<=(aB6 fs n).length
 |0=>by simp[aB6,aBE]
 |n+1=>by
  have h1:=aKX fs n;have h2:=aTS (fth fs n);rw[aB6,List.length_append,aC0];omega
theorem aN8(ts:List T)(hk:∀i,(tth ts i).key.size<=(keyL (tth ts i)).length):∀n,aB1 ts n+n<=(aAZ ts n).length
 |0=>by simp[aAZ,aB1]
 |n+1=>by
  have h1:=aN8 ts hk n;have h3:=aKX (tth ts n).fields (tth ts n).fields.length;have h4:szT (tth ts n)=(tth ts n).name.size+(tth ts n).key.size+((tth ts n).fields.length+aBE (tth ts n).fields (tth ts n).fields.length):=rfl;have h5:=hk n;have h2:([116,121,112,101,32]:List UInt8).length=5:=rfl;have h6:([10]:List UInt8).length=1:=rfl;rw[aAZ,List.length_append,List.length_append,aB8,aBF,List.length_append,List.length_append,List.length_append,tl];omega
theorem aUD(t:T):t.key.size<=(keyL t).length:=by
 unfold keyL;split
 ·rename_i h;have h0:t.key.toList=[]:=List.isEmpty_iff.1 h;have h1:t.key.data.toList=[]:=by rw[<-ByteArray.toList_eq];exact h0
  rw[<-tl,h1];exact Nat.le_refl _
 ·rw[List.length_append,tl];omega
theorem aTK(p:Pt):szP p<=(aCU p).length:=by
 have h1:=aN8 p.types (fun i=>aUD _) p.types.length;have h2:szP p=p.name.size+(p.types.length+aB1 p.types p.types.length):=rfl;rw[aCU,aAK,List.length_append,List.length_append,List.length_append,tl];omega
theorem aKE(p:Pt)(h:okP p=true):szP p<=1500∧p.types.length<=5:=by
 have h1:=aTK p;unfold okP at h;simp only[Bool.and_eq_true,Bool.not_eq_true',decide_eq_false_iff_not] at h;omega
end Go.Proofs.YtcebpkeiaiiphaaGreatDoor
