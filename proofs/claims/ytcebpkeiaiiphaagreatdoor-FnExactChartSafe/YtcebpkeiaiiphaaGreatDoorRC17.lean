import Derived.Test.YtcebpkeiaiiphaaGreatDoorRC16
set_option linter.unusedSimpArgs false
set_option linter.unusedVariables false
namespace Go.Proofs.YtcebpkeiaiiphaaGreatDoor
open Go.RowKit
def aG6(f:F):Nat->ByteArray
 |0=>aJE f
 |1=>farB f
 |2=>hidB f
 |_=>shaB f
def aO4:Nat->Int
 |0=>4
 |1=>8
 |2=>16
 |_=>32
theorem aGV(f:F)(j:Nat):(aG6 f j).size<=f.name.size+f.of.size+32:=by
 have h:=aLR f;have h0:(aJE f).size<=f.name.size+f.of.size+6:=by unfold aJE;simp only[ByteArray.size_append,aCB,List.size_toArray,List.length_cons,List.length_nil];omega
 have h1:(farB f).size<=f.name.size+f.of.size+10:=by unfold farB;split<;>(first| simp only[ByteArray.size_append,aCB,List.size_toArray,List.length_cons,List.length_nil]| skip)<;>omega
 have h2:(hidB f).size<=f.name.size+f.of.size+17:=by unfold hidB;split<;>(first| simp only[ByteArray.size_append,aCB,List.size_toArray,List.length_cons,List.length_nil]| skip)<;>omega
 have h3:(shaB f).size<=f.name.size+f.of.size+24:=by unfold shaB;split<;>(first| simp only[ByteArray.size_append,aCB,List.size_toArray,List.length_cons,List.length_nil]| skip)<;>omega
 match j with
 |0=>show(aJE f).size<=_;omega
 |1=>show(farB f).size<=_;omega
 |2=>show(hidB f).size<=_;omega
 |j+3=>show(shaB f).size<=_;omega
theorem aAD(a b:ByteArray):(a++b).data.toList=a.data.toList++b.data.toList:=by simp
theorem aH0(bs:List UInt8)(a s:ByteArray)(h1:bs.length<=70368744177664)(h2:a.size<=4194304)(h3:s.size<=4194304):(bs++a.data.toList).length+s.size<=140737488355328:=by
 have h:a.data.toList.length=a.size:=Array.length_toList;rw[List.length_append,h];omega
def aI9(ns:List ByteArray):List UInt8:=(ns.map fun b=>32::b.data.toList).flatten
theorem aLW(xs ys:List ByteArray):aI9 (xs++ys)=aI9 xs++aI9 ys:=by simp[aI9]
theorem aJ5(f:F):∀k,k<=f.needs.length->(aDF f k).data.toList=(aH9 f).data.toList++aI9 (f.needs.take k)
 |0,_=>by simp[aDF,aI9]
 |k+1,h=>by
  have e:nth f.needs k=f.needs[k]:=by simp[nth,List.getD_eq_getElem?_getD,show k<f.needs.length by omega]
  rw[aDF,aAD,aAD,aJ5 f k (by omega),List.take_succ_eq_append_getElem (by omega),aLW,<-e]
  have e2:aI9 [nth f.needs k]=32::(nth f.needs k).data.toList:=by simp[aI9]
  rw[e2];simp
theorem aRN(ns:List ByteArray)(h:ns≠[]):32::Lib.join (ns.map (·.data.toList)) [32]=aI9 ns:=by
 cases ns with
 |nil=>exact absurd rfl h
 |cons x r=>simp[Lib.join_cons,Lib.joinTail,aI9,Function.comp_def]
theorem aL1{w w':World}{base:Nat}{e:TypeId}{size:Nat}{v:Value}{n:Nat}{xs:List Value}(h:w.ownsRowF base e size v n xs)(hb:Below w.heap.size w w'):w'.ownsRowF base e size v n xs:=by
 refine⟨h.1,?_⟩;rcases h.2 with h2| ⟨g,cap,cur,fz,h2,h3,h4,h5⟩
 ·exact Or.inl h2
 ·exact Or.inr ⟨g,cap,cur,fz,h2,h3,(hb.block g (Array.getElem?_eq_some_iff.1 h4).1).trans h4,h5⟩
theorem aKU{b:Nat}{w w':World}(hb:Below w.heap.size w w'):Kept b w w':=fun k o hk _ _=>(hb.block k (Array.getElem?_eq_some_iff.1 hk).1).trans hk
theorem Kept.trans{b:Nat}{a c d:World}(h:Kept b a c)(k:Kept b c d):Kept b a d:=Lib.OthersKept.trans h k
theorem Bld.kept{B b:Nat}{l:List UInt8}{w w':World}(h:Bld B b l w)(hb:Below w.heap.size w w'):Bld B b l w':=by
 have key:∀p,Lib.BuilderAtF 166 5 B b p (Lib.byteCells l) w->Lib.BuilderAtF 166 5 B b p (Lib.byteCells l) w':=fun p ⟨h1,v,h2,h3,h4⟩=>
  ⟨h1,v,(hb.block b (Array.getElem?_eq_some_iff.1 h2).1).trans h2,aL1 h3 hb,h4⟩
 rcases h with h| h
 ·exact Or.inl (key _ h)
 ·exact Or.inr (key _ h)
set_option maxHeartbeats 1600000 in
theorem aG7(nm of:ByteArray)(l m fr hi sh:Bool)(needs:List ByteArray)(na:Option Addr)(nc:Nat)(w:World)(B bb:Nat)(bs:List UInt8)(hb:Bld B bb bs w)(hbb:bb<w.heap.size)(hB:B<=w.heap.size)(hs1:nm.size<=1048576)(hs2:of.size<=1048576)(hlen:bs.length<=70368744177664)(hS:Strs w (·<B) needs na)(hnc:needs.length<=nc)(hsn:szNs needs<=1048576):
  Calls Tryz.prog 138 #[.pointer (some ⟨bb,0,none⟩),.agg #[.int .u8 (aCD l m fr hi sh),.string nm,.string of,.bool l,.bool m,.bool fr,.bool hi,.bool sh,.slice na needs.length nc]] w fun e w'=>e=.returned (.tuple #[])∧Bld B bb (bs++(aGN ⟨nm,of,l,m,fr,hi,sh,needs⟩).data.toList) w'∧Below B w w'∧Kept bb w w':=by
 have BM:∀W:World,W.heap[w.heap.size]?=some (.cells #[.int .u8 (aCD l m fr hi sh),.string nm,.string of,.bool l,.bool m,.bool fr,.bool hi,.bool sh,.slice na needs.length nc] 219 (0,0))->W.cell? ⟨w.heap.size,0,none⟩=some (.int .u8 (aCD l m fr hi sh))∧W.cell? ⟨w.heap.size,1,none⟩=some (.string nm)∧W.cell? ⟨w.heap.size,2,none⟩=some (.string of)∧W.cell? ⟨w.heap.size,3,none⟩=some (.bool l)∧W.cell? ⟨w.heap.size,4,none⟩=some (.bool m)∧W.cell? ⟨w.heap.size,5,none⟩=some (.bool fr)∧W.cell? ⟨w.heap.size,6,none⟩=some (.bool hi)∧W.cell? ⟨w.heap.size,7,none⟩=some (.bool sh)∧W.cell? ⟨w.heap.size,8,none⟩=some (.slice na needs.length nc):=fun W h=>
  ⟨(aA1 h 0 (by simp)).1,(aA1 h 1 (by simp)).1,(aA1 h 2 (by simp)).1,(aA1 h 3 (by simp)).1,(aA1 h 4 (by simp)).1,(aA1 h 5 (by simp)).1,(aA1 h 6 (by simp)).1,(aA1 h 7 (by simp)).1,(aA1 h 8 (by simp)).1⟩
 have hbx:=heap_alloc_new w (.cells #[.int .u8 (aCD l m fr hi sh),.string nm,.string of,.bool l,.bool m,.bool fr,.bool hi,.bool sh,.slice na needs.length nc] 219);have hof:=fun w=>aQ8 nm of l m fr hi sh needs na needs.length nc w hs2;have ha4:=aTP l m fr hi sh;have ha8:=aO8 l m fr hi sh;have ha16:=aOG l m fr hi sh;generalize aCD l m fr hi sh=x at*;obtain⟨p0,p1,p2,p3,p4,p5,p6,p7,p8⟩:=BM _ hbx;have hzo:=aLR ⟨nm,of,l,m,fr,hi,sh,needs⟩;simp only at hzo;have HOF:Hid (ofB ⟨nm,of,l,m,fr,hi,sh,needs⟩=ofB ⟨nm,of,l,m,fr,hi,sh,needs⟩):=rfl;generalize hoe:ofB ⟨nm,of,l,m,fr,hi,sh,needs⟩=ot at*;have b1:2+nm.size<=9223372036854775807:=by omega
 have b2:2+nm.size+1<=9223372036854775807:=by omega
 have b3:2+nm.size+1+ot.size<=9223372036854775807:=by omega
 have hbld:∀W,Below (w.alloc (.cells #[.int .u8 x,.string nm,.string of,.bool l,.bool m,.bool fr,.bool hi,.bool sh,.slice na needs.length nc] 219)).heap.size (w.alloc (.cells #[.int .u8 x,.string nm,.string of,.bool l,.bool m,.bool fr,.bool hi,.bool sh,.slice na needs.length nc] 219)) W->Bld B bb bs W:=fun W h=>hb.kept ((aA2 w _).trans (h.mono (by simp)))
 go_enter Tryz.func138,Tryz.ntmps138
 go_upto_region 1 with fail
 go_cut [] (fun wx=>Bld B bb (bs++(⟨#[32,32]⟩++nm++⟨#[32]⟩++ot:ByteArray).data.toList) wx∧Below B w wx∧Kept bb w wx∧wx.heap[w.heap.size]?=some (.cells #[.int .u8 x,.string nm,.string of,.bool l,.bool m,.bool fr,.bool hi,.bool sh,.slice na needs.length nc] 219 (0,0)))
 case first=>
  go_region_with (first
   |(
    go_at_call 165
    refine(hof _).mono ?_;rintro e w1 ⟨rfl,hb1⟩;have hu1:=aAF hb1;have hk1:=(hu1.block w.heap.size (by simp)).trans hbx
    obtain⟨q0,q1,q2,q3,q4,q5,q6,q7,q8⟩:=BM w1 hk1;have z1:=hu1.size;simp at z1;have hbd1:=hbld w1 hu1)
   |(
    go_at_call 92
    refine(aBR B bb bs _ w1 hbd1 ?_ (by omega)).mono ?_
    ·simp only[ByteArray.size_append,aCB,List.size_toArray,List.length_cons,List.length_nil];omega
    rintro e w2 ⟨rfl,hbd2,hbe2,hke2⟩;have hk2:=hke2.block hk1 (by omega) (by decide)
    obtain⟨r0,r1,r2,r3,r4,r5,r6,r7,r8⟩:=BM w2 hk2))
  all_goals
   go_wp2_with fail
   go_meet
   case rel=>exact⟨hbd2,((aA2 w _).mono hB).trans ((hu1.mono (by simp;omega)).trans hbe2),(aKU ((aA2 w _).trans (hu1.mono (by simp)))).trans hke2,hk2⟩
 case rest=>
  obtain⟨hbd,hbe,hke,hkb⟩:=hcut;have hsz:B<=wc.heap.size:=Nat.le_trans hB hbe.size;have hbd0:Bld B bb (bs++(aG6 ⟨nm,of,l,m,fr,hi,sh,needs⟩ 0).data.toList) wc:=by
   show Bld B bb (bs++(aJE ⟨nm,of,l,m,fr,hi,sh,needs⟩).data.toList) wc;rw[aJE,hoe];exact hbd
  clear hbd hof hbx hbld hb p0 p1 p2 p3 p4 p5 p6 p7 p8 b1 b2 b3 HOF;go_wp2_with fail
  go_loopw [4] (fun i wr=>∃j:Nat,j<=3∧i=.int .u8 (aO4 j)∧Bld B bb (bs++(aG6 ⟨nm,of,l,m,fr,hi,sh,needs⟩ j).data.toList) wr∧Below B w wr∧Kept bb w wr∧wr.heap[w.heap.size]?=some (.cells #[.int .u8 x,.string nm,.string of,.bool l,.bool m,.bool fr,.bool hi,.bool sh,.slice na needs.length nc] 219 (0,0))∧B<=wr.heap.size) (fun i _=>32- (intOf i).toNat)
  case atStart=>exact⟨0,by omega,rfl,hbd0,hbe,hke,hkb,hsz⟩
  case round=>
   clear hbd0 hbe hke hkb hsz;obtain⟨j,hj,rfl,hbd,hbe,hke,hkb,hsz⟩:=hrel;obtain⟨p0,p1,p2,p3,p4,p5,p6,p7,p8⟩:=BM wr hkb;have hj4:j=0∨j=1∨j=2∨j=3:=by omega
   rcases hj4 with rfl| rfl| rfl| rfl
   ·-- the bit 4
    have hA:=fun w=>aD7 x 4 w;rw[ha4] at hA;cases fr
    ·go_wp2_with (go_at_call 161;refine(hA _).mono ?_;rintro e w' ⟨rfl,rfl⟩)
     go_roundw
     case rel=>exact⟨1,by omega,by rfl,hbd,hbe,hke,hkb,hsz⟩
     case measure=>simp[intOf,aO4]
    ·go_wp2_with (first
      |(go_at_call 161;refine(hA _).mono ?_;rintro e w' ⟨rfl,rfl⟩)
      |(go_at_call 166;refine(aTR _).mono ?_;rintro e w' ⟨rfl,rfl⟩)
      |(
       go_at_call 92
       refine(aBR B bb _ _ wr hbd ?_ hsz).mono ?_
       ·exact aH0 _ _ _ hlen (by have:=aGV ⟨nm,of,l,m,true,hi,sh,needs⟩ 0;simp only at this;omega) (by simp[ByteArray.size_append,aCB])
       rintro e w2 ⟨rfl,hbd2,hbe2,hke2⟩;have hkb2:=hke2.block hkb (by omega) (by decide)))
     go_roundw
     case rel=>
      refine⟨1,by omega,by rfl,?_,hbe.trans hbe2,hke.trans hke2,hkb2,Nat.le_trans hsz hbe2.size⟩
      rw[List.append_assoc,<-aAD] at hbd2;exact hbd2
     case measure=>simp[intOf,aO4]
   ·-- the bit 8
    have hA:=fun w=>aD7 x 8 w;rw[ha8] at hA;cases hi
    ·go_wp2_with (go_at_call 161;refine(hA _).mono ?_;rintro e w' ⟨rfl,rfl⟩)
     go_roundw
     case rel=>exact⟨2,by omega,by rfl,hbd,hbe,hke,hkb,hsz⟩
     case measure=>simp[intOf,aO4]
    ·go_wp2_with (first
      |(go_at_call 161;refine(hA _).mono ?_;rintro e w' ⟨rfl,rfl⟩)
      |(go_at_call 166;refine(aO5 _).mono ?_;rintro e w' ⟨rfl,rfl⟩)
      |(
       go_at_call 92
       refine(aBR B bb _ _ wr hbd ?_ hsz).mono ?_
       ·exact aH0 _ _ _ hlen (by have:=aGV ⟨nm,of,l,m,fr,true,sh,needs⟩ 1;simp only at this;omega) (by simp[ByteArray.size_append,aCB])
       rintro e w2 ⟨rfl,hbd2,hbe2,hke2⟩;have hkb2:=hke2.block hkb (by omega) (by decide)))
     go_roundw
     case rel=>
      refine⟨2,by omega,by rfl,?_,hbe.trans hbe2,hke.trans hke2,hkb2,Nat.le_trans hsz hbe2.size⟩
      rw[List.append_assoc,<-aAD] at hbd2;exact hbd2
     case measure=>simp[intOf,aO4]
   ·-- the bit 16
    have hA:=fun w=>aD7 x 16 w;rw[ha16] at hA;cases sh
    ·go_wp2_with (go_at_call 161;refine(hA _).mono ?_;rintro e w' ⟨rfl,rfl⟩)
     go_roundw
     case rel=>exact⟨3,by omega,by rfl,hbd,hbe,hke,hkb,hsz⟩
     case measure=>simp[intOf,aO4]
    ·go_wp2_with (first
      |(go_at_call 161;refine(hA _).mono ?_;rintro e w' ⟨rfl,rfl⟩)
      |(go_at_call 166;refine(aO9 _).mono ?_;rintro e w' ⟨rfl,rfl⟩)
      |(
       go_at_call 92
       refine(aBR B bb _ _ wr hbd ?_ hsz).mono ?_
       ·exact aH0 _ _ _ hlen (by have:=aGV ⟨nm,of,l,m,fr,hi,true,needs⟩ 2;simp only at this;omega) (by simp[ByteArray.size_append,aCB])
       rintro e w2 ⟨rfl,hbd2,hbe2,hke2⟩;have hkb2:=hke2.block hkb (by omega) (by decide)))
     go_roundw
     case rel=>
      refine⟨3,by omega,by rfl,?_,hbe.trans hbe2,hke.trans hke2,hkb2,Nat.le_trans hsz hbe2.size⟩
      rw[List.append_assoc,<-aAD] at hbd2;exact hbd2
     case measure=>simp[intOf,aO4]
   ·have hz3:=aGV ⟨nm,of,l,m,fr,hi,sh,needs⟩ 3;simp only at hz3;by_cases hn0:needs.length=0
    ·have d1:decide ((0:Int)<(needs.length:Int))=false:=decide_eq_false (by omega)
     have d2:decide (0<needs.length)=false:=decide_eq_false (by omega)
     have HL:Hid ((aGN ⟨nm,of,l,m,fr,hi,sh,needs⟩).data.toList=(aG6 ⟨nm,of,l,m,fr,hi,sh,needs⟩ 3).data.toList++[10]):=by
      show _=_;rw[aGN,aAD];show(aDF ⟨nm,of,l,m,fr,hi,sh,needs⟩ needs.length).data.toList++_=_;rw[hn0];show(aH9 ⟨nm,of,l,m,fr,hi,sh,needs⟩).data.toList++_=(shaB ⟨nm,of,l,m,fr,hi,sh,needs⟩).data.toList++_;rw[aH9,if_neg (by show¬0<needs.length;omega)]
     have hwb:=aEU B bb _ 10 wr hbd (by
      have h:(aG6 ⟨nm,of,l,m,fr,hi,sh,needs⟩ 3).data.toList.length=(aG6 ⟨nm,of,l,m,fr,hi,sh,needs⟩ 3).size:=Array.length_toList;rw[List.length_append,h];omega) hsz
     rw[show(((10:UInt8).toNat:Nat):Int)=10 from rfl] at hwb
     clear hn0;go_wp2_with (
      go_at_call 137
      refine hwb.mono ?_;rintro e w2 ⟨rfl,hbd2,hbe2,hke2⟩)
     refine bodyPost_end (v:=.tuple #[]) ?res rfl ⟨rfl,by rw[HL.out,<-List.append_assoc];exact hbd2,hbe.trans hbe2,hke.trans hke2⟩
     case res=>simp[results,Tryz.results138,go_sem]
    ·have d1:(0:Int)<(needs.length:Int):=by omega
     have hne:needs≠[]:=by intro e;simp[e] at hn0
     obtain⟨d,doff,rfl,hdB,hcc⟩:=hS.1 hne;have htl:(aDF ⟨nm,of,l,m,fr,hi,sh,needs⟩ needs.length).data.toList=(aH9 ⟨nm,of,l,m,fr,hi,sh,needs⟩).data.toList++aI9 needs:=by
      have:=aJ5 ⟨nm,of,l,m,fr,hi,sh,needs⟩ needs.length (Nat.le_refl _);rw[this];simp
     have hmk:(aH9 ⟨nm,of,l,m,fr,hi,sh,needs⟩).data.toList=(aG6 ⟨nm,of,l,m,fr,hi,sh,needs⟩ 3).data.toList++[32,110,101,101,100,115]:=by
      show _=(shaB ⟨nm,of,l,m,fr,hi,sh,needs⟩).data.toList++_;rw[aH9,if_pos (by show 0<needs.length;omega),aAD]
     have htz:(aI9 needs).length<=4000000:=by
      have h1:=aES ⟨nm,of,l,m,fr,hi,sh,needs⟩ needs.length;have h2:(aDF ⟨nm,of,l,m,fr,hi,sh,needs⟩ needs.length).data.toList.length=(aDF ⟨nm,of,l,m,fr,hi,sh,needs⟩ needs.length).size:=Array.length_toList;rw[htl,List.length_append] at h2;simp only at h1;have h3:needs.length+aEH needs needs.length<=1048576:=hsn;omega
     have hjt:=aRN needs hne;have hjl:(Lib.join (needs.map (·.data.toList)) [32]).length+1<=4000000:=by
      have:=congrArg List.length hjt;simp only[List.length_cons] at this;omega
     have HL:Hid ((aGN ⟨nm,of,l,m,fr,hi,sh,needs⟩).data.toList=(aG6 ⟨nm,of,l,m,fr,hi,sh,needs⟩ 3).data.toList++([32,110,101,101,100,115]++(32::Lib.join (needs.map (·.data.toList)) [32]))++[10]):=by
      show _=_;rw[aGN,aAD];show(aDF ⟨nm,of,l,m,fr,hi,sh,needs⟩ needs.length).data.toList++[10]=_;rw[htl,hmk,hjt];simp
     have hJ:=aTL d doff nc needs ⟨#[32]⟩ wr (fun j y hy=>by
      obtain⟨hjl,rfl⟩:=List.getElem?_eq_some_iff.1 hy;have:=(hbe.cell (p:=⟨d,doff+j,none⟩) hdB).trans (hcc j hjl);simpa[nth,List.getD_eq_getElem?_getD,hjl] using this) (by omega) (by have:=hS.2.2;have h3:needs.length+aEH needs needs.length<=1048576:=hsn;omega) hnc (by
       show(Lib.join (needs.map (·.data.toList)) [32]).length<=_;omega)
     rw[show((⟨#[32]⟩:ByteArray).data.toList)=[32] from rfl] at hJ
     clear htl hmk htz hjt hcc hn0;generalize Lib.join (needs.map (·.data.toList)) [32]=jl at*;have bj:7+(⟨jl.toArray⟩:ByteArray).size<=9223372036854775807:=by
      have:(⟨jl.toArray⟩:ByteArray).size=jl.length:=by simp[ByteArray.size]
      omega
     have hjs:(⟨jl.toArray⟩:ByteArray).size=jl.length:=by simp[ByteArray.size]
     go_wp2_with (first
      |(
       go_at_call 65
       refine hJ.mono ?_;rintro e w2 ⟨rfl,hb2⟩;have hbd2:=hbd.kept hb2;have hkb2:=(hb2.block w.heap.size (Array.getElem?_eq_some_iff.1 hkb).1).trans hkb;have hsz2:=Nat.le_trans hsz hb2.size;obtain⟨v0,v1,v2,v3,v4,v5,v6,v7,v8⟩:=BM w2 hkb2)
      |(
       go_at_call 92
       refine(aBR B bb _ _ w2 hbd2 (aH0 _ _ _ hlen (by omega) (by simp only[ByteArray.size_append,aCB,hjs,List.size_toArray,List.length_cons,List.length_nil];omega)) hsz2).mono ?_
       rintro e w3 ⟨rfl,hbd3,hbe3,hke3⟩;have hsz3:=Nat.le_trans hsz2 hbe3.size)
      |(
       go_at_call 137
       have hwb:=aEU B bb _ 10 w3 hbd3 (by
        have h:(aG6 ⟨nm,of,l,m,fr,hi,sh,needs⟩ 3).data.toList.length=(aG6 ⟨nm,of,l,m,fr,hi,sh,needs⟩ 3).size:=Array.length_toList;have h2:∀a:ByteArray,a.data.toList.length=a.size:=fun a=>Array.length_toList;rw[List.length_append,List.length_append,h,h2];simp only[ByteArray.size_append,aCB,hjs,List.size_toArray,List.length_cons,List.length_nil];omega) hsz3
       rw[show(((10:UInt8).toNat:Nat):Int)=10 from rfl] at hwb
       refine hwb.mono ?_;rintro e w4 ⟨rfl,hbd4,hbe4,hke4⟩))
     refine bodyPost_end (v:=.tuple #[]) ?res rfl ⟨rfl,?_,(hbe.trans (hb2.mono hsz)).trans (hbe3.trans hbe4),((hke.trans (aKU hb2)).trans hke3).trans hke4⟩;case res=>simp[results,Tryz.results138,go_sem]
     rw[HL.out];simpa using hbd4
end Go.Proofs.YtcebpkeiaiiphaaGreatDoor
