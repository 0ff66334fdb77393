import Derived.Test.YtcebpkeiaiiphaaGreatDoorRB23
set_option linter.unusedSimpArgs false
set_option linter.unusedVariables false
namespace Go.Proofs.YtcebpkeiaiiphaaGreatDoor
open Go.RowKit
def aFU(p:Pt):Nat→Nat→Nat
 |k,0=>k
 |k,n+1=>if aAG p k=0 then aFU p (k+1) n else k
def badT(p:Pt):Nat:=aFU p 0 p.types.length
def aFG(p:Pt):Value:=
 if 5<p.types.length then .iface 173 (.agg #[.int .i64 6,.iface 171 (.int .i64 6)])
 else if aBA p.name=false then .iface 171 (.int .i64 1)
 else if aB6 p=false then .iface 171 (.int .i64 7)
 else if badT p<p.types.length then .iface 173 (.agg #[.int .i64 ((badT p:Nat)+1:Int),aBT (aAG p (badT p))])
 else if 1500<(aCR p).length then .iface 171 (.int .i64 6) else .nilIface
set_option maxHeartbeats 3200000 in
theorem aEN(p:Pt)(w:World)(B:Nat)(v:Value)(hP:PRep w (·<B) p v)(hB:B≤w.heap.size)(hz:szP p≤1048576):
  Calls Tryz.prog 66 #[v] w fun e w'=>e=.returned (aFG p)∧Below w.heap.size w w':=by
 have hP':=hP
 obtain⟨pname,types⟩:=p
 obtain⟨ta,tc,rfl,hK,hnc,hpn⟩:=hP
 simp only at hK hnc hpn hP'
 have h56:=hK.1
 have hE:Hid (aFG ⟨pname,types⟩=if 5<types.length then .iface 173 (.agg #[.int .i64 6,.iface 171 (.int .i64 6)])
  else if aBA pname=false then .iface 171 (.int .i64 1)
  else if aB6 ⟨pname,types⟩=false then .iface 171 (.int .i64 7)
  else if badT ⟨pname,types⟩<types.length then .iface 173 (.agg #[.int .i64 ((badT ⟨pname,types⟩:Nat)+1:Int),aBT (aAG ⟨pname,types⟩ (badT ⟨pname,types⟩))])
  else if 1500<(aCR ⟨pname,types⟩).length then .iface 171 (.int .i64 6) else .nilIface):=rfl
 have PC:∀W,Below (w.heap.size+1) (w.alloc (.cells #[.string pname,.slice ta types.length tc] 46)) W→W.cell? ⟨w.heap.size,0,none⟩=some (.string pname)∧W.cell? ⟨w.heap.size,1,none⟩=some (.slice ta types.length tc)∧Below w.heap.size w W∧B≤W.heap.size∧w.heap.size+1≤W.heap.size:=fun W h=>by
  have hs:=h.size
  simp at hs
  exact⟨(h.cell (p:=⟨w.heap.size,0,none⟩) (by show w.heap.size<_;omega)).trans (aBR _ _ 0 (by simp)),(h.cell (p:=⟨w.heap.size,1,none⟩) (by show w.heap.size<_;omega)).trans (aBR _ _ 1 (by simp)),(aA2 w _).trans (h.mono (by omega)),by omega,by omega⟩
 have hT0:=Below.refl (w.heap.size+1) (w.alloc (.cells #[.string pname,.slice ta types.length tc] 46))
 have hR:=fun W h=>aNV ⟨pname,types⟩ W B _ (hP'.under ((PC W h).2.2.1.mono hB)) (PC W h).2.2.2.1
 have hC:=fun W h k hk=>aL4 ⟨pname,types⟩ k W B _ (hP'.under ((PC W h).2.2.1.mono hB)) hk (PC W h).2.2.2.1
 have hX:=fun W h=>aML ⟨pname,types⟩ W B _ (hP'.under ((PC W h).2.2.1.mono hB)) (PC W h).2.2.2.1 hz
 have hN:=fun W=>aDK pname W hpn
 by_cases h5:5<types.length
 ·have d:(5:Int)<(types.length:Int):=by omega
  go_enter Tryz.func66,Tryz.ntmps66
  go_wp2_with fail
  go_ret
  exact⟨by rw[hE.out,if_pos h5];rfl,(PC _ hT0).2.2.1⟩
 have d5:¬(5:Int)<(types.length:Int):=by omega
 cases hn:aBA pname
 ·rw[hn] at hN
  go_enter Tryz.func66,Tryz.ntmps66
  go_wp2_with (
   go_at_call 94
   refine(hN _).mono ?_
   rintro e w1 ⟨rfl,rfl⟩)
  go_ret
  exact⟨by rw[hE.out,if_neg h5,if_pos hn];rfl,(PC _ hT0).2.2.1⟩
 cases hr:aB6 ⟨pname,types⟩
 ·rw[hn] at hN
  rw[hr] at hR
  go_enter Tryz.func66,Tryz.ntmps66
  go_wp2_with (first
   |(
    go_at_call 94
    refine(hN _).mono ?_
    rintro e w1 ⟨rfl,rfl⟩)
   |(
    go_at_call 95
    refine(hR _ hT0).mono ?_
    rintro e w2 ⟨rfl,hb2⟩
    have hT2:=hT0.trans (hb2.mono (by simp))))
  go_ret
  exact⟨by rw[hE.out,if_neg h5,if_neg (by rw[hn];simp),if_pos hr];rfl,(PC _ hT2).2.2.1⟩
 rw[hn] at hN
 rw[hr] at hR
 go_enter Tryz.func66,Tryz.ntmps66
 go_wp2_with (first
  |(
   go_at_call 94
   refine(hN _).mono ?_
   rintro e w1 ⟨rfl,rfl⟩)
  |(
   go_at_call 95
   refine(hR _ hT0).mono ?_
   rintro e w2 ⟨rfl,hb2⟩
   have hT2:=hT0.trans (hb2.mono (by simp))
   obtain⟨q20,q21,hw2,hB2,hs2⟩:=PC w2 hT2))
 go_loopw [24] (fun i wr=>∃k:Nat,k≤types.length∧i=.int .i64 k∧Hid (badT ⟨pname,types⟩=aFU ⟨pname,types⟩ k (types.length- k))∧Below (w.heap.size+1) (w.alloc (.cells #[.string pname,.slice ta types.length tc] 46)) wr) (fun i _=>types.length- (intOf i).toNat)
 case atStart=>exact⟨0,Nat.zero_le _,rfl,rfl,hT2⟩
 case round=>
  clear q20 q21 hw2 hB2 hs2 hT2 hb2
  obtain⟨k,hk,rfl,HBD,hbl⟩:=hrel
  obtain⟨w0,rfl⟩:∃x,x=wr:=⟨wr,rfl⟩
  obtain⟨q0,q1,hw0,hB0,hs0⟩:=PC w0 hbl
  by_cases hlt:k<types.length
  ·have hC1:=hC w0 hbl k hlt
   have HB2:Hid (badT ⟨pname,types⟩=if aAG ⟨pname,types⟩ k=0 then aFU ⟨pname,types⟩ (k+1) (types.length- (k+1)) else k):=by
    show _=_
    rw[HBD.out,show types.length- k=(types.length- (k+1))+1 by omega,aFU]
   by_cases hc:aAG ⟨pname,types⟩ k=0
   ·rw[hc,show aBT 0=.nilIface from rfl] at hC1
    go_wp2_with (
     go_at_call 96
     refine hC1.mono ?_
     rintro e w3 ⟨rfl,hb3⟩
     have hT3:=hbl.trans (hb3.mono (by omega)))
    go_roundw
    case rel=>exact⟨k+1,by omega,by go_num,by show _=_;rw[HB2.out,if_pos hc],hT3⟩
    case measure=>simp[intOf];omega
   ·have HBK:Hid (badT ⟨pname,types⟩=k):=by show _=_;rw[HB2.out,if_neg hc]
    have hce:aBT (aAG ⟨pname,types⟩ k)=.iface 171 (.int .i64 (aAG ⟨pname,types⟩ k)):=by rw[aBT,if_neg hc]
    rw[hce] at hC1
    go_wp2_with (
     go_at_call 96
     refine hC1.mono ?_
     rintro e w3 ⟨rfl,hb3⟩
     have hT3:=hbl.trans (hb3.mono (by omega)))
    refine bodyPost_ret (v:=.iface 173 (.agg #[.int .i64 ((k:Nat)+1:Int),.iface 171 (.int .i64 (aAG ⟨pname,types⟩ k))])) ?res rfl ⟨?_,(PC _ hT3).2.2.1⟩
    case res=>simp[results,Tryz.results66,go_sem]
    rw[hE.out,if_neg h5,if_neg (by rw[hn];simp),if_neg (by rw[hr];simp),HBK.out,if_pos hlt,hce]
  ·have HBK:Hid (badT ⟨pname,types⟩=types.length):=by
    show _=_
    rw[HBD.out,show types.length- k=0 by omega,aFU];omega
   have hX1:=hX w0 hbl
   have hln:=aGT ⟨pname,types⟩
   have hsz:(⟨(aCR ⟨pname,types⟩).toArray⟩:ByteArray).size=(aCR ⟨pname,types⟩).length:=List.size_toArray
   generalize (⟨(aCR ⟨pname,types⟩).toArray⟩:ByteArray)=tx at hX1 hsz
   have htz:Hid (tx.size=(aCR ⟨pname,types⟩).length):=hsz
   have hsm:tx.size≤9223372036854775807:=by omega
   by_cases hlen:1500<(aCR ⟨pname,types⟩).length
   ·have d:(1500:Int)<(tx.size:Int):=by omega
    clear hsz hln
    go_wp2_with (
     go_at_call 97
     refine hX1.mono ?_
     rintro e w3 ⟨rfl,hb3⟩
     have hT3:=hbl.trans (hb3.mono (by omega)))
    refine bodyPost_ret (v:=.iface 171 (.int .i64 6)) ?res rfl ⟨?_,(PC _ hT3).2.2.1⟩
    case res=>simp[results,Tryz.results66,go_sem]
    rw[hE.out,if_neg h5,if_neg (by rw[hn];simp),if_neg (by rw[hr];simp),HBK.out,if_neg (by omega),if_pos hlen]
   ·have d:¬(1500:Int)<(tx.size:Int):=by omega
    clear hsz hln
    go_wp2_with (
     go_at_call 97
     refine hX1.mono ?_
     rintro e w3 ⟨rfl,hb3⟩
     have hT3:=hbl.trans (hb3.mono (by omega)))
    refine bodyPost_ret (v:=.nilIface) ?res rfl ⟨?_,(PC _ hT3).2.2.1⟩
    case res=>simp[results,Tryz.results66,go_sem]
    rw[hE.out,if_neg h5,if_neg (by rw[hn];simp),if_neg (by rw[hr];simp),HBK.out,if_neg (by omega),if_neg hlen]
def okP(p:Pt):Bool:=!(decide (5<p.types.length))&&aBA p.name&&aB6 p&&!(decide (badT p<p.types.length))&&!(decide (1500<(aCR p).length))
theorem aF4(p:Pt):∀n k,aFU p k n<k+n→aAG p (aFU p k n)≠0
 |0,k,h=>by simp[aFU] at h
 |n+1,k,h=>by
  rw[aFU] at h ⊢
  by_cases e:aAG p k=0
  ·rw[if_pos e] at h ⊢;exact aF4 p n (k+1) (by omega)
  ·rw[if_neg e];exact e
theorem aKH(p:Pt)(h:okP p=true):aFG p=.nilIface:=by
 simp only[okP,Bool.and_eq_true,Bool.not_eq_true',decide_eq_false_iff_not] at h
 obtain⟨⟨⟨⟨a,b⟩,c⟩,d⟩,e⟩:=h
 rw[aFG,if_neg a,if_neg (by rw[b];simp),if_neg (by rw[c];simp),if_neg d,if_neg e]
theorem aIZ(p:Pt)(h:okP p=false):(∃x,aFG p=.iface 171 (.int .i64 x))∨∃i x,aFG p=.iface 173 (.agg #[.int .i64 i,.iface 171 (.int .i64 x)]):=by
 unfold aFG
 by_cases a:5<p.types.length
 ·rw[if_pos a];exact .inr ⟨_,_,rfl⟩
 rw[if_neg a]
 by_cases b:aBA p.name=false
 ·rw[if_pos b];exact .inl ⟨_,rfl⟩
 rw[if_neg b]
 by_cases c:aB6 p=false
 ·rw[if_pos c];exact .inl ⟨_,rfl⟩
 rw[if_neg c]
 by_cases d:badT p<p.types.length
 ·rw[if_pos d]
  have hb:aAG p (badT p)≠0:=aF4 p _ 0 (by rw[Nat.zero_add];exact d)
  exact .inr ⟨((badT p:Nat)+1:Int),aAG p (badT p),by rw[aBT,if_neg hb]⟩
 rw[if_neg d]
 by_cases e:1500<(aCR p).length
 ·rw[if_pos e];exact .inl ⟨_,rfl⟩
 exfalso
 simp[okP,a,b,c,d,e] at h
theorem aHI(f g:Nat→Nat)(k:Nat)(h:∀i,i≠k→f i=g i):∀n,k<n→((List.range n).map f).sum+g k=((List.range n).map g).sum+f k
 |0,hk=>absurd hk (Nat.not_lt_zero _)
 |n+1,hk=>by
  simp only[List.range_succ,List.map_append,List.map_cons,List.map_nil,List.sum_append,List.sum_cons,List.sum_nil,Nat.add_zero]
  by_cases e:k=n
  ·subst e
   have:(List.range k).map f=(List.range k).map g:=List.map_congr_left fun i hi=>h i (by have:=List.mem_range.1 hi;omega)
   rw[this]
   omega
  ·have ih:=aHI f g k h n (by omega)
   have:=h n (fun x=>e x.symm)
   omega
theorem aOA(f g:Nat→Nat)(n:Nat)(h:∀i,i<n→f i=g i):((List.range n).map f).sum=((List.range n).map g).sum:=by
 rw[List.map_congr_left fun i hi=>h i (List.mem_range.1 hi)]
theorem aUT(f:F):f.of.size≤(ofB f).size:=by
 unfold ofB;split<;>split<;>(first| simp only[ByteArray.size_append,aCA,List.size_toArray,List.length_cons,List.length_nil]| skip)<;>omega
theorem aTA(f:F):f.name.size+f.of.size≤(aH9 f).size:=by
 have:=aUT f
 unfold aH9 shaB hidB farB aJ0
 split<;>split<;>split<;>split<;>simp only[ByteArray.size_append,aCA,List.size_toArray,List.length_cons,List.length_nil]<;>omega
theorem aMX(f:F):∀k,f.name.size+f.of.size+k+aEB f.needs k≤(aD6 f k).size
 |0=>by have:=aTA f;simp only[aD6,aEB];simp;omega
 |k+1=>by
  have:=aMX f k
  rw[aD6,aFQ]
  simp only[ByteArray.size_append,aCA,List.size_toArray,List.length_cons,List.length_nil]
  omega
theorem aST(f:F):szF f+1≤(aGV f).data.toList.length:=by
 have h1:=aMX f f.needs.length
 have h2:szF f=f.name.size+f.of.size+(f.needs.length+aEB f.needs f.needs.length):=rfl
 rw[tl,aGV,ByteArray.size_append]
 have h3:(⟨#[10]⟩:ByteArray).size=1:=rfl
 omega
theorem aKE(fs:List F):∀n,aBC fs n+n≤(aB5 fs n).length
 |0=>by simp[aB5,aBC]
 |n+1=>by
  have h1:=aKE fs n
  have h2:=aST (fth fs n)
  rw[aB5,List.length_append,aC1]
  omega
theorem aN1(ts:List T)(hk:∀i,(tth ts i).key.size≤(keyL (tth ts i)).length):∀n,aB8 ts n+n≤(aAX ts n).length
 |0=>by simp[aAX,aB8]
 |n+1=>by
  have h1:=aN1 ts hk n
  have h3:=aKE (tth ts n).fields (tth ts n).fields.length
  have h4:szT (tth ts n)=(tth ts n).name.size+(tth ts n).key.size+((tth ts n).fields.length+aBC (tth ts n).fields (tth ts n).fields.length):=rfl
  have h5:=hk n
  have h2:([116,121,112,101,32]:List UInt8).length=5:=rfl
  have h6:([10]:List UInt8).length=1:=rfl
  rw[aAX,List.length_append,List.length_append,aBM,aBD,List.length_append,List.length_append,List.length_append,tl]
  omega
theorem aTY(t:T):t.key.size≤(keyL t).length:=by
 unfold keyL
 split
 ·rename_i h
  have h0:t.key.toList=[]:=List.isEmpty_iff.1 h
  have h1:t.key.data.toList=[]:=by rw[←ByteArray.toList_eq];exact h0
  rw[←tl,h1]
  exact Nat.le_refl _
 ·rw[List.length_append,tl];omega
theorem aSB(p:Pt):szP p≤(aCR p).length:=by
 have h1:=aN1 p.types (fun i=>aTY _) p.types.length
 have h2:szP p=p.name.size+(p.types.length+aB8 p.types p.types.length):=rfl
 rw[aCR,aAK,List.length_append,List.length_append,List.length_append,tl]
 omega
theorem aMZ(p:Pt)(h:okP p=true):szP p≤1500∧p.types.length≤5:=by
 have h1:=aSB p
 unfold okP at h
 simp only[Bool.and_eq_true,Bool.not_eq_true',decide_eq_false_iff_not] at h
 omega
end Go.Proofs.YtcebpkeiaiiphaaGreatDoor
