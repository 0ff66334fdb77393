import Derived.Test.YtokmgbidmnanpaaGreatDoorQ4
import Derived.Test.YtokmgbidmnanpaaGreatDoorQ1
import Derived.Test.YtokmgbidmnanpaaGreatDoorQ7
import Derived.Lib.AppendIntMem
import Derived.Deep.RegionHeld3
set_option linter.unusedSimpArgs false
set_option linter.unusedVariables false
namespace Go.Proofs.YtokmgbidmnanpaaGreatDoor
open Go.RowKit Go.Shelf
def Tab(B:Nat)(w:World):Prop:=Lib.TabBelow Tryz.prog B w "internal/strconv.uint64pow10" .u64 Lib.pow10Tab
theorem Tab.on{B:Nat}{w w':World}(h:Tab B w)(hb:Below B w w'):Tab B w':=fun W hW=>h W (hb.trans hW)
theorem aOV(n:Nat):decL n=Lib.decDigits n:=by
 induction n using Nat.strongRecOn with
 |_ n ih=>
  by_cases h:n<10
  ·rw[aHE h,Lib.decDigits,dif_pos h]
  ·rw[aLH h,Lib.decDigits,dif_neg h,ih (n / 10) (by omega)]
theorem aP1(B:Nat)(n:Int)(w:World)(h0:0≤n)(h1:n≤999999)(ht:Tab B w)(hB:B≤w.heap.size):
  Calls Tryz.prog 150 #[.int .i64 n] w fun e w'=>(∃t:ByteArray,e=.returned (.string t)∧t.data.toList=decL n.toNat∧t.size≤6)∧Below w.heap.size w w':=by
 refine(Any.strconv_Itoa aV1 n (by omega) (by omega) w (ht w (Below.refl _ _))).mono ?_
 rintro e w' ⟨rfl,k,os,rfl⟩
 refine⟨⟨_,rfl,?_,?_⟩,Lib.below_grow w.heap.size w (Nat.le_refl _) k os⟩
 ·rw[aOV,Lib.itoa,if_neg (by omega)]
 ·have:=aM1 5 n.toNat (by omega)
  rw[aOV] at this
  rw[Lib.itoa,if_neg (by omega)]
  simpa[ByteArray.size] using this
set_option maxHeartbeats 400000 in
theorem aNT(B b:Nat)(m:Value)(l:List UInt8)(d:Nat)(w:World)(h:AskT B b m l w)(hl:l.length≤1000000)(hd:d≤9000000000000000000)(hBw:B≤w.heap.size):
  Calls Tryz.prog 126 #[.pointer (some ⟨b,0,none⟩),.int .i64 d] w fun e w'=>e=.returned (.tuple #[])∧AskT B b m (l++(if d=0 then[] else[44])) w'∧Below B w w'∧Kept b w w':=by
 have HW:=aA0 (aHC B b m l 44 w h (by omega) hBw)
 have HH:=aA0 h
 by_cases h0:d=0
 ·subst h0
  go_enter Tryz.func126,Tryz.ntmps126
  go_wp2_with fail
  go_end0
  exact⟨rfl,by simpa using HH.out,Below.refl _ _,Lib.OthersKept.refl _ _ _⟩
 ·have hd0:(0:Int)<(d:Int):=by omega
  have HE:Hid (l++(if d=0 then[] else[44])=l++[44]):=aA0 (by rw[if_neg h0])
  rw[HE.out]
  clear h0 h
  go_enter Tryz.func126,Tryz.ntmps126
  go_wp2_with fail
  refine HW.out.mono ?_
  rintro e w1 ⟨rfl,h1,hb1,hk1⟩
  have HF:=aA0 (And.intro h1 (And.intro hb1 hk1))
  clear h1 hb1 hk1
  go_wp2_with fail
  go_end0
  exact⟨rfl,HF.out⟩
theorem aSB:(56:TypeId)≠5:=by decide
set_option maxRecDepth 20000 in
set_option maxHeartbeats 1600000 in
theorem aUJ(B b:Nat)(m:Value)(l:List UInt8)(s:Se)(w:World)(v4:Value)(h:AskT B b m l w)(hl:l.length≤1000000)(hs:selB s=true)(hBw:B≤w.heap.size)(hb:b<w.heap.size)(ht:Tab B w)(hv4:∃a n c,v4=.slice a n c):
  Calls Tryz.prog 127 #[.pointer (some ⟨b,0,none⟩),.agg #[.string s.al,.string s.name,.bool s.one,.int .i64 s.id,v4]] w fun e w'=>e=.returned (.tuple #[])∧AskT B b m (l++aHM s) w'∧Below B w w'∧Kept b w w':=by
 obtain⟨sa,sn,sc,rfl⟩:=hv4
 have hid9:=aOD hs
 have hnm:s.name.size≤8:=by
  simp only[selB,Bool.and_eq_true] at hs
  exact aEG hs.1.1.1
 have hal:s.al.size≤8:=by
  simp only[selB,Bool.and_eq_true,Bool.or_eq_true] at hs
  rcases hs.1.1.2 with h1| h1
  ·have:=aC3 s.al
   rw[List.isEmpty_iff] at h1
   rw[h1] at this
   simp at this
   omega
  ·exact aEG h1.1
 have HHD:Hid (aHM s=(if s.al.toList.isEmpty=true then[] else s.al.toList++[58])++s.name.toList++(if s.one=true then 40::decL s.id.toNat++[41] else[])):=aA0 rfl
 obtain⟨hd,hhd⟩:∃x,x=aHM s:=⟨_,rfl⟩
 rw[←hhd] at HHD ⊢
 clear hhd hs
 generalize s.al=al at*
 generalize s.name=name at*
 generalize s.one=one at*
 generalize s.id=id at*
 have bB:=aA2 w (.cells #[.string al,.string name,.bool one,.int .i64 id,.slice sa sn sc] 56)
 have nB:=aA3 (w:=w) #[.string al,.string name,.bool one,.int .i64 id,.slice sa sn sc] 56 rfl
 have hX:=h.below bB
 have kX:Kept b w (w.alloc (.cells #[.string al,.string name,.bool one,.int .i64 id,.slice sa sn sc] 56)):=(Lib.OthersKept.refl _ _ w).alloc _
 have zX:w.heap.size<(w.alloc (.cells #[.string al,.string name,.bool one,.int .i64 id,.slice sa sn sc] 56)).heap.size:=by simp
 have hne:w.heap.size≠b:=by omega
 have HB:Hid (∀W,Kept b (w.alloc (.cells #[.string al,.string name,.bool one,.int .i64 id,.slice sa sn sc] 56)) W→W.cell? ⟨w.heap.size,0,none⟩=some (.string al)∧W.cell? ⟨w.heap.size,1,none⟩=some (.string name)∧W.cell? ⟨w.heap.size,2,none⟩=some (.bool one)∧W.cell? ⟨w.heap.size,3,none⟩=some (.int .i64 id)):=aA0 fun W hW=>by
  have hb:=hW.block nB hne aSB
  exact⟨(aA1 hb 0 (by simp)).1,(aA1 hb 1 (by simp)).1,(aA1 hb 2 (by simp)).1,(aA1 hb 3 (by simp)).1⟩
 have b1:¬9223372036854775807<al.size+1:=by omega
 have hal1:(al++⟨#[58]⟩:ByteArray).size=al.size+1:=by rw[ByteArray.size_append];rfl
 cases he:al.toList.isEmpty
 ·have he':(if al.toList.isEmpty=true then([]:List UInt8) else al.toList++[58])=al.data.toList++[58]:=by rw[he,ByteArray.toList_eq];rfl
  have HEE:=aA0 he'
  clear he'
  go_enter Tryz.func127,Tryz.ntmps127
  go_wp2_with fail
  generalize hXe:w.alloc (.cells #[.string al,.string name,.bool one,.int .i64 id,.slice sa sn sc] 56)=X at*
  clear hXe
  obtain⟨q0,q1,q2,q3⟩:=HB.out X (Lib.OthersKept.refl _ _ _)
  go_region_with (
   go_at_call 114
   refine(aCO B b m l _ X.drew hX (by omega) (by show B≤X.heap.size;omega)).mono ?_
   rintro e w1 ⟨rfl,h1,hb1,hk1⟩
   have bw1:Below B w w1:=(bB.mono hBw).drew.trans hb1
   have kw1:Kept b X w1:=hk1
   have h1:AskT B b m (l++(al.data.toList++[58])) w1:=by simpa using h1
   clear q0 q1 q2 q3
   obtain⟨q0,q1,q2,q3⟩:=HB.out w1 kw1)
  have hsz:al.data.size=al.size:=rfl
  have hsn:name.data.size=name.size:=rfl
  go_wp2_with fail
  have HD1:Hid (hd=(al.data.toList++[58])++name.toList++(if one=true then 40::decL id.toNat++[41] else[])):=aA0 (by rw[HHD.out,HEE.out])
  go_region_with (
   go_at_call 114
   refine(aCO B b m (l++(al.data.toList++[58])) name w1.drew h1 (by simp;skip;omega) (by show B≤w1.heap.size;have:=bw1.size;omega)).mono ?_
   rintro e w2 ⟨rfl,h2,hb2,hk2⟩
   have bw2:=bw1.drew.trans hb2
   have kw2:Kept b X w2:=Lib.OthersKept.trans (show Kept b X w1.drew from kw1) hk2
   clear q0 q1 q2 q3
   obtain⟨q0,q1,q2,q3⟩:=HB.out w2 kw2)
  cases one
  ·go_wp2_with fail
   go_end0
   refine⟨rfl,?_,bw2,kX.trans kw2⟩
   rw[HD1.out]
   simpa[ByteArray.toList_eq] using h2
  ·have ht2:Tab B w2.drew:=ht.on bw2.drew
   have hIt:=aP1 B id w2.drew hid9.1 hid9.2 ht2 (by show B≤w2.heap.size;have:=bw2.size;omega)
   have HIT:=aA0 hIt
   clear hIt
   go_wp2_with fail
   go_region_with (first
    |(
     go_at_call 150
     refine HIT.out.mono ?_
     rintro e w3 ⟨⟨t,rfl,htl,ht6⟩,hb3⟩
     have HTL:=aA0 htl
     clear htl
     have c1:¬9223372036854775807<1+t.size:=by omega
     have c2:¬9223372036854775807<1+t.size+1:=by omega
     have hts:(⟨#[40]⟩++t++⟨#[41]⟩:ByteArray).size=1+t.size+1:=by rw[ByteArray.size_append,ByteArray.size_append];rfl
     have z3:=hb3.size
     have hll:(l++(al.data.toList++[58])++name.data.toList).length≤1000100:=by simp only[List.length_append,List.length_cons,List.length_nil,Array.length_toList];omega
     have h3:AskT B b m (l++(al.data.toList++[58])++name.data.toList) w3:=AskT.below (w:=w2.drew) h2 hb3
     have bw3:=bw2.drew.trans (hb3.mono (by show B≤w2.heap.size;have:=bw2.size;omega))
     have kw3:Kept b w2 w3:=fun k o hk _ _=>(hb3.block k (Array.getElem?_eq_some_iff.1 hk).1).trans hk)
    |(
     go_at_call 114
     refine(aCO B b m (l++(al.data.toList++[58])++name.data.toList) _ w3 h3 (by rw[hts];omega) (by have:=bw3.size;omega)).mono ?_
     rintro e w4 ⟨rfl,h4,hb4,hk4⟩))
   go_wp2_with fail
   go_end0
   refine⟨rfl,?_,bw3.trans hb4,kX.trans (kw2.trans (kw3.trans hk4))⟩
   rw[HD1.out]
   simpa[ByteArray.toList_eq,HTL.out] using h4
 ·have he':(if al.toList.isEmpty=true then([]:List UInt8) else al.toList++[58])=[]:=by rw[he];rfl
  have HEE:=aA0 he'
  clear he'
  go_enter Tryz.func127,Tryz.ntmps127
  go_wp2_with fail
  generalize hXe:w.alloc (.cells #[.string al,.string name,.bool one,.int .i64 id,.slice sa sn sc] 56)=X at*
  clear hXe
  obtain⟨q0,q1,q2,q3⟩:=HB.out X (Lib.OthersKept.refl _ _ _)
  have bw1:Below B w X:=bB.mono hBw
  have kw1:Kept b X X:=Lib.OthersKept.refl _ _ _
  have h1:AskT B b m (l++[]) X:=by simpa using hX
  have hsn:name.data.size=name.size:=rfl
  have HD1:Hid (hd=[]++name.toList++(if one=true then 40::decL id.toNat++[41] else[])):=aA0 (by rw[HHD.out,HEE.out])
  go_region_with (
   go_at_call 114
   refine(aCO B b m (l++[]) name X.drew h1 (by simp;skip;omega) (by show B≤X.heap.size;have:=bw1.size;omega)).mono ?_
   rintro e w2 ⟨rfl,h2,hb2,hk2⟩
   have bw2:=bw1.drew.trans hb2
   have kw2:Kept b X w2:=Lib.OthersKept.trans (show Kept b X X.drew from kw1) hk2
   clear q0 q1 q2 q3
   obtain⟨q0,q1,q2,q3⟩:=HB.out w2 kw2)
  cases one
  ·go_wp2_with fail
   go_end0
   refine⟨rfl,?_,bw2,kX.trans kw2⟩
   rw[HD1.out]
   simpa[ByteArray.toList_eq] using h2
  ·have ht2:Tab B w2.drew:=ht.on bw2.drew
   have hIt:=aP1 B id w2.drew hid9.1 hid9.2 ht2 (by show B≤w2.heap.size;have:=bw2.size;omega)
   have HIT:=aA0 hIt
   clear hIt
   go_wp2_with fail
   go_region_with (first
    |(
     go_at_call 150
     refine HIT.out.mono ?_
     rintro e w3 ⟨⟨t,rfl,htl,ht6⟩,hb3⟩
     have HTL:=aA0 htl
     clear htl
     have c1:¬9223372036854775807<1+t.size:=by omega
     have c2:¬9223372036854775807<1+t.size+1:=by omega
     have hts:(⟨#[40]⟩++t++⟨#[41]⟩:ByteArray).size=1+t.size+1:=by rw[ByteArray.size_append,ByteArray.size_append];rfl
     have z3:=hb3.size
     have hll:(l++[]++name.data.toList).length≤1000100:=by simp only[List.length_append,List.length_cons,List.length_nil,Array.length_toList];omega
     have h3:AskT B b m (l++[]++name.data.toList) w3:=AskT.below (w:=w2.drew) h2 hb3
     have bw3:=bw2.drew.trans (hb3.mono (by show B≤w2.heap.size;have:=bw2.size;omega))
     have kw3:Kept b w2 w3:=fun k o hk _ _=>(hb3.block k (Array.getElem?_eq_some_iff.1 hk).1).trans hk)
    |(
     go_at_call 114
     refine(aCO B b m (l++[]++name.data.toList) _ w3 h3 (by rw[hts];omega) (by have:=bw3.size;omega)).mono ?_
     rintro e w4 ⟨rfl,h4,hb4,hk4⟩))
   go_wp2_with fail
   go_end0
   refine⟨rfl,?_,bw3.trans hb4,kX.trans (kw2.trans (kw3.trans hk4))⟩
   rw[HD1.out]
   simpa[ByteArray.toList_eq,HTL.out] using h4
end Go.Proofs.YtokmgbidmnanpaaGreatDoor
