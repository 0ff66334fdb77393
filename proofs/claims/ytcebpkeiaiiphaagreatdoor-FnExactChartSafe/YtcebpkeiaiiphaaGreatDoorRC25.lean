import Derived.Test.YtcebpkeiaiiphaaGreatDoorRC18
import Derived.Test.YtcebpkeiaiiphaaGreatDoorRC22
set_option linter.unusedSimpArgs false
set_option linter.unusedVariables false
namespace Go.Proofs.YtcebpkeiaiiphaaGreatDoor
open Go.RowKit
theorem aG4(p:Pt)(i:Nat):aAG p i=if aAM p i=0 then(if aDV (tth p.types i).fields (tth p.types i).fields.length=false then 7 else 0) else aAM p i:=by
 simp only[aAG,aAM];split
 ·simp
 split
 ·simp
 split
 ·simp
 split
 ·simp
 split
 ·simp
 ·simp
def aCQ(p:Pt):Int× Int:=
 if 5<p.types.length then(6,6) else if aBB p.name=false then(0,1) else if aB5 p=false then(0,7)
 else if badT p<p.types.length then(((badT p:Nat):Int)+1,aAG p (badT p)) else if 1500<(aCU p).length then(0,6) else(0,0)
theorem aE9(p:Pt):((aCQ p).2=0↔okP p=true):=by
 unfold aCQ okP;by_cases a:5<p.types.length
 ·simp[a]
 rw[if_neg a];by_cases b:aBB p.name=false
 ·simp[b]
 rw[if_neg b];by_cases c:aB5 p=false
 ·simp[c]
 rw[if_neg c];by_cases d:badT p<p.types.length
 ·have hb:aAG p (badT p)≠0:=aFE p _ 0 (by rw[Nat.zero_add];exact d)
  rw[if_pos d];simp[d,hb]
 rw[if_neg d];by_cases e:1500<(aCU p).length
 ·rw[if_pos e];simp[e]
 ·rw[if_neg e];simp only[Bool.not_eq_false] at b c;simp[a,b,c,d,e]
set_option maxHeartbeats 3200000 in
theorem aD9(p:Pt)(w:World)(B:Nat)(v:Value)(hP:PRep w (·<B) p v)(hB:B<=w.heap.size)(hz:szP p<=1048576):
  Calls Tryz.prog 49 #[v] w fun e w'=>e=.returned (.agg #[.int .i64 (aCQ p).1,.int .i64 (aCQ p).2])∧Below w.heap.size w w':=by
 have hP':=hP;obtain⟨pname,types⟩:=p;obtain⟨ta,tc,rfl,hK,hnc,hpn⟩:=hP;simp only at hK hnc hpn hP';have h56:=hK.1;have hE:Hid (aCQ ⟨pname,types⟩=if 5<types.length then(6,6) else if aBB pname=false then(0,1) else if aB5 ⟨pname,types⟩=false then(0,7)
  else if badT ⟨pname,types⟩<types.length then(((badT ⟨pname,types⟩:Nat):Int)+1,aAG ⟨pname,types⟩ (badT ⟨pname,types⟩)) else if 1500<(aCU ⟨pname,types⟩).length then(0,6) else(0,0)):=rfl
 obtain⟨X,hXe⟩:∃X,X=((w.alloc (.cells #[.string pname,.slice ta types.length tc] 46)).alloc (.cells #[.int .i64 0,.int .i64 0] 92)):=⟨_,rfl⟩;have PC:∀W,Below (w.heap.size+1+1) X W->W.cell? ⟨w.heap.size,0,none⟩=some (.string pname)∧W.cell? ⟨w.heap.size,1,none⟩=some (.slice ta types.length tc)∧W.cell? ⟨w.heap.size+1,0,none⟩=some (.int .i64 0)∧W.cell? ⟨w.heap.size+1,1,none⟩=some (.int .i64 0)∧W.frozen? ⟨w.heap.size+1,0,none⟩=false∧W.frozen? ⟨w.heap.size+1,1,none⟩=false∧Below w.heap.size w W∧w.heap.size+1<W.heap.size:=fun W h=>by
  subst hXe;have hz:=h.size;simp at hz;have a:∀i (hi:i<2),W.cell? ⟨w.heap.size,i,none⟩=some #[Value.string pname,.slice ta types.length tc][i]:=fun i hi=>(h.cell (p:=⟨w.heap.size,i,none⟩) (by show w.heap.size<_;omega)).trans (((aA2 _ _).cell (p:=⟨w.heap.size,i,none⟩) (by show w.heap.size<_;simp)).trans (aBC _ _ i (by simpa using hi)))
  have hb:W.heap[w.heap.size+1]?=some (.cells #[.int .i64 0,.int .i64 0] 92 (0,0)):=(h.block (w.heap.size+1) (by omega)).trans (by have:=heap_alloc_new (w.alloc (.cells #[.string pname,.slice ta types.length tc] 46)) (.cells #[.int .i64 0,.int .i64 0] 92);simpa using this)
  obtain⟨r0,f0⟩:=aA1 hb 0 (by simp)
  obtain⟨r1,f1⟩:=aA1 hb 1 (by simp)
  exact⟨a 0 (by omega),a 1 (by omega),r0,r1,f0,f1,(aA6 w _ _).trans (h.mono (by omega)),by omega⟩
 have hT0:Below (w.heap.size+1+1) X ((w.alloc (.cells #[.string pname,.slice ta types.length tc] 46)).alloc (.cells #[.int .i64 0,.int .i64 0] 92)):=by rw[hXe];exact Below.refl _ _
 clear hXe;have hBW:=fun W (h:Below (w.heap.size+1+1) X W)=>show B<=W.heap.size by have:=(PC W h).2.2.2.2.2.2.2;omega
 have hC:=fun W h k hk=>aO7 ⟨pname,types⟩ k W B _ (hP'.under ((PC W h).2.2.2.2.2.2.1.mono hB)) hk (hBW W h);have hX:=fun W h=>aNE ⟨pname,types⟩ W B _ (hP'.under ((PC W h).2.2.2.2.2.2.1.mono hB)) (hBW W h) hz;have hN:=fun W=>aDP pname W hpn;have SET:∀W x y,Below w.heap.size w W->Below w.heap.size w ((W.setCell ⟨w.heap.size+1,0,none⟩ x).setCell ⟨w.heap.size+1,1,none⟩ y):=fun W x y h=>(h.setCell (by show w.heap.size<=w.heap.size+1;omega) _).setCell (by show w.heap.size<=w.heap.size+1;omega) _
 obtain⟨p0,p1,r0,r1,f0,f1,hbw,hz2⟩:=PC _ hT0;by_cases h5:5<types.length
 ·have d:(5:Int)<(types.length:Int):=by omega
  go_enter Tryz.func49,Tryz.ntmps49
  go_wp2_with fail
  refine bodyPost_ret (v:=.agg #[.int .i64 6,.int .i64 6]) ?res rfl ⟨?_,aA6 _ _ _⟩;case res=>simp[results,Tryz.results49,go_sem]
  rw[hE.out,if_pos h5]
 have d5:¬(5:Int)<(types.length:Int):=by omega
 cases hn:aBB pname
 ·rw[hn] at hN;go_enter Tryz.func49,Tryz.ntmps49
  go_wp2_with (
   go_at_call 72
   refine(hN _).mono ?_;rintro e w1 ⟨rfl,rfl⟩)
  refine bodyPost_ret (v:=.agg #[.int .i64 0,.int .i64 1]) ?res rfl ⟨?_,aA6 _ _ _⟩;case res=>simp[results,Tryz.results49,go_sem]
  rw[hE.out,if_neg h5,if_pos hn]
 rw[hn] at hN;by_cases h0:types.length=0
 ·have d0:((types.length:Int)==0)=true:=by simp;exact List.eq_nil_of_length_eq_zero h0
  have hr:aB5 ⟨pname,types⟩=false:=by simp[aB5,h0]
  go_enter Tryz.func49,Tryz.ntmps49
  go_wp2_with (first
   |(
    go_at_call 72
    refine(hN _).mono ?_;rintro e w1 ⟨rfl,rfl⟩))
  refine bodyPost_ret (v:=.agg #[.int .i64 0,.int .i64 7]) ?res rfl ⟨?_,aA6 _ _ _⟩;case res=>simp[results,Tryz.results49,go_sem]
  rw[hE.out,if_neg h5,if_neg (by rw[hn];simp),if_pos hr]
 have hl0:0<types.length:=by omega
 have d0:((types.length:Int)==0)=false:=by simp;intro e;simp[e] at h0
 have d1:(0:Int)<(types.length:Int):=by omega
 obtain⟨b,off,fa0,fc0,rfl,htr0,hcs0⟩:=hK.at hB 0 hl0;obtain⟨a0,a1,a2⟩:=hcs0 _ hbw;have HR:Hid (aB5 ⟨pname,types⟩=(isT (tth types 0).name [113,117,101,114,121]&&(tth types 0).key.toList.isEmpty)):=by show _=_;simp[aB5,hl0]
 simp only[Nat.zero_mul,Nat.add_zero] at a0 a1 a2;cases x1:((tth types 0).name.toList==[113,117,101,114,121])
 ·have hr:aB5 ⟨pname,types⟩=false:=by rw[HR.out,isT,x1];rfl
  go_enter Tryz.func49,Tryz.ntmps49
  go_wp2_with (first
   |(
    go_at_call 72
    refine(hN _).mono ?_;rintro e w1 ⟨rfl,rfl⟩))
  refine bodyPost_ret (v:=.agg #[.int .i64 0,.int .i64 7]) ?res rfl ⟨?_,aA6 _ _ _⟩;case res=>simp[results,Tryz.results49,go_sem]
  rw[hE.out,if_neg h5,if_neg (by rw[hn];simp),if_pos hr]
 cases x2:(tth types 0).key.toList.isEmpty
 ·have hr:aB5 ⟨pname,types⟩=false:=by rw[HR.out,x2];simp
  go_enter Tryz.func49,Tryz.ntmps49
  go_wp2_with (first
   |(
    go_at_call 72
    refine(hN _).mono ?_;rintro e w1 ⟨rfl,rfl⟩))
  refine bodyPost_ret (v:=.agg #[.int .i64 0,.int .i64 7]) ?res rfl ⟨?_,aA6 _ _ _⟩;case res=>simp[results,Tryz.results49,go_sem]
  rw[hE.out,if_neg h5,if_neg (by rw[hn];simp),if_pos hr]
 have hr:Hid (aB5 ⟨pname,types⟩=true):=by show _=_;rw[HR.out,isT,x1,x2];rfl
 go_enter Tryz.func49,Tryz.ntmps49
 go_wp2_with (first
   |(
    go_at_call 72
    refine(hN _).mono ?_;rintro e w1 ⟨rfl,rfl⟩))
 go_loopw [3] (fun i wr=>∃k:Nat,k<=types.length∧i=.int .i64 k∧Hid (badT ⟨pname,types⟩=aG0 ⟨pname,types⟩ k (types.length- k))∧Below (w.heap.size+1+1) X wr) (fun i _=>types.length- (intOf i).toNat)
 case atStart=>exact⟨0,Nat.zero_le _,rfl,rfl,hT0⟩
 case round=>
  clear p0 p1 r0 r1 f0 f1 hbw hz2 a0 a1 a2 d0 d1 htr0 hcs0 x1 x2 HR;obtain⟨k,hk,rfl,HBD,hbl⟩:=hrel;obtain⟨w0,rfl⟩:∃x,x=wr:=⟨wr,rfl⟩;obtain⟨p0,p1,r0,r1,f0,f1,hbw,hz2⟩:=PC w0 hbl;by_cases hlt:k<types.length
  ·have hC1:=hC w0 hbl k hlt;have HB2:Hid (badT ⟨pname,types⟩=if aAG ⟨pname,types⟩ k=0 then aG0 ⟨pname,types⟩ (k+1) (types.length- (k+1)) else k):=by
    show _=_;rw[HBD.out,show types.length- k=(types.length- (k+1))+1 by omega,aG0]
   by_cases hc:aAM ⟨pname,types⟩ k=0
   ·rw[hc] at hC1;have HTC:Hid (aAG ⟨pname,types⟩ k=if aDV (tth types k).fields (tth types k).fields.length=false then 7 else 0):=by show _=_;rw[aG4,if_pos hc]
    obtain⟨b',off',fa,fc,hta,htr,hcs⟩:=hK.at hB k hlt;simp only[Option.some.injEq,Addr.mk.injEq,and_true] at hta;obtain⟨rfl,rfl⟩:=hta;obtain⟨fa',fc',e0,e1,e2,hfs,hffc,hs1,hs2⟩:=htr.parts;simp only[Value.slice.injEq] at e2;obtain⟨rfl,-,rfl⟩:=e2;have hf64:=hfs.1;clear e0 e1 hc HBD htr;have hki:(k:Int)<(types.length:Int):=by omega
    go_wp2_with (
     go_at_call 73
     refine hC1.mono ?_;rintro e w3 ⟨rfl,hb3⟩;have hT3:=hbl.trans (hb3.mono (by omega))
     obtain⟨p30,p31,r30,r31,f30,f31,hbw3,hz3⟩:=PC w3 hT3;obtain⟨c0,c1,c2⟩:=hcs w3 hbw3)
    go_loop [5] (fun i=>∃j:Nat,j<=(tth types k).fields.length∧i=.int .i64 j∧aDV (tth types k).fields j=true) (fun i=>(tth types k).fields.length- (intOf i).toNat)
    case atStart=>exact⟨0,Nat.zero_le _,rfl,rfl⟩
    case round=>
     obtain⟨j,hj,rfl,hpj⟩:=hrel;have HPJ:Hid (aDV (tth types k).fields j=true):=hpj;clear hpj;by_cases hjt:j<(tth types k).fields.length
     ·obtain⟨fb,foff,na,nc,rfl,hfr,hcf⟩:=hfs.at hB j hjt;obtain⟨g0,g1,g2,g3,g4,g5,g6,g7⟩:=hcf w3 hbw3;clear hcf hfr;have hji:(j:Int)<((tth types k).fields.length:Int):=by omega
      cases y1:((fth (tth types k).fields j).of.toList==[113,117,101,114,121])
      ·go_wp2_with fail
       go_round
       case rel=>exact⟨j+1,by omega,by go_num,by rw[aJQ,HPJ.out,isT,y1];rfl⟩
       case measure=>simp[intOf];omega
      ·have hbad:aDV (tth types k).fields (tth types k).fields.length=false:=aBM (k:=j) hjt (by rw[isT,y1];rfl)
       have HC7:Hid (aAG ⟨pname,types⟩ k=7):=by show _=_;rw[HTC.out,if_pos hbad]
       have HBK:Hid (badT ⟨pname,types⟩=k):=by show _=_;rw[HB2.out,if_neg (by rw[HC7.out];omega)]
       clear hbad;go_wp2_with fail
       refine bodyPost_ret (v:=.agg #[.int .i64 ((k:Nat)+1:Int),.int .i64 7]) ?res rfl ⟨?_,SET _ _ _ hbw3⟩;case res=>simp[results,Tryz.results49,go_sem,r30,r31]
       rw[hE.out,if_neg h5,if_neg (by rw[hn];simp),if_neg (by rw[hr.out];simp),HBK.out,if_pos hlt,HC7.out]
     ·have hje:j=(tth types k).fields.length:=by omega
      go_wp2_with fail
      go_roundw
      case rel=>exact⟨k+1,by omega,by go_num,by show _=_;rw[HB2.out,if_pos (by rw[HTC.out,<-hje,HPJ.out];rfl)],hT3⟩
      case measure=>simp[intOf];omega
   ·have hcd:aAG ⟨pname,types⟩ k=aAM ⟨pname,types⟩ k:=by rw[aG4,if_neg hc]
    have HBK:Hid (badT ⟨pname,types⟩=k):=by show _=_;rw[HB2.out,if_neg (by rw[hcd];exact hc)]
    have HCD:Hid (aAG ⟨pname,types⟩ k=aAM ⟨pname,types⟩ k):=hcd;have hcn:(aAM ⟨pname,types⟩ k !=0)=true:=by simpa using hc
    clear hcd HB2 HBD;generalize hfc:aAM ⟨pname,types⟩ k=fcd at hC1 hcn HCD hc;clear hfc hc;go_wp2_with (
     go_at_call 73
     refine hC1.mono ?_;rintro e w3 ⟨rfl,hb3⟩;have hT3:=hbl.trans (hb3.mono (by omega))
     obtain⟨p30,p31,r30,r31,f30,f31,hbw3,hz3⟩:=PC w3 hT3)
    refine bodyPost_ret (v:=.agg #[.int .i64 ((k:Nat)+1:Int),.int .i64 fcd]) ?res rfl ⟨?_,SET _ _ _ hbw3⟩;case res=>simp[results,Tryz.results49,go_sem,r30,r31]
    rw[hE.out,if_neg h5,if_neg (by rw[hn];simp),if_neg (by rw[hr.out];simp),HBK.out,if_pos hlt,HCD.out]
  ·have HBK:Hid (badT ⟨pname,types⟩=types.length):=by
    show _=_;rw[HBD.out,show types.length- k=0 by omega,aG0];omega
   have hX1:=hX w0 hbl;have hln:=aGY ⟨pname,types⟩;have hsz:(⟨(aCU ⟨pname,types⟩).toArray⟩:ByteArray).size=(aCU ⟨pname,types⟩).length:=List.size_toArray;generalize (⟨(aCU ⟨pname,types⟩).toArray⟩:ByteArray)=tx at hX1 hsz;have htz:Hid (tx.size=(aCU ⟨pname,types⟩).length):=hsz;have hsm:tx.size<=9223372036854775807:=by omega
   by_cases hlen:1500<(aCU ⟨pname,types⟩).length
   ·have d:(1500:Int)<(tx.size:Int):=by omega
    clear hsz hln;go_wp2_with (
     go_at_call 74
     refine hX1.mono ?_;rintro e w3 ⟨rfl,hb3⟩;have hT3:=hbl.trans (hb3.mono (by omega))
     obtain⟨p30,p31,r30,r31,f30,f31,hbw3,hz3⟩:=PC w3 hT3)
    refine bodyPost_ret (v:=.agg #[.int .i64 0,.int .i64 6]) ?res rfl ⟨?_,SET _ _ _ hbw3⟩;case res=>simp[results,Tryz.results49,go_sem,r30,r31]
    rw[hE.out,if_neg h5,if_neg (by rw[hn];simp),if_neg (by rw[hr.out];simp),HBK.out,if_neg (by omega),if_pos hlen]
   ·have d:¬(1500:Int)<(tx.size:Int):=by omega
    clear hsz hln;go_wp2_with (
     go_at_call 74
     refine hX1.mono ?_;rintro e w3 ⟨rfl,hb3⟩;have hT3:=hbl.trans (hb3.mono (by omega))
     obtain⟨p30,p31,r30,r31,f30,f31,hbw3,hz3⟩:=PC w3 hT3)
    refine bodyPost_ret (v:=.agg #[.int .i64 0,.int .i64 0]) ?res rfl ⟨?_,SET _ _ _ hbw3⟩;case res=>simp[results,Tryz.results49,go_sem,r30,r31]
    rw[hE.out,if_neg h5,if_neg (by rw[hn];simp),if_neg (by rw[hr.out];simp),HBK.out,if_neg (by omega),if_neg hlen]
theorem aFQ(a c:Value)(w:World):Sem.run Tryz.prog (Instr.field 92 (.agg #[a,c]) 1) w=.ok c w:=by
 simp[Instr.field,Tryz.underlying92,asAgg,go_sem]
end Go.Proofs.YtcebpkeiaiiphaaGreatDoor
