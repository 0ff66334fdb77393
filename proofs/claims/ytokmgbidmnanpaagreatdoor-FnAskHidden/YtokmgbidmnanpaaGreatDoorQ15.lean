import Derived.Test.YtokmgbidmnanpaaGreatDoorQ8
import Derived.Test.YtokmgbidmnanpaaGreatDoorQ2
set_option linter.unusedSimpArgs false
set_option linter.unusedVariables false
namespace Go.Proofs.YtokmgbidmnanpaaGreatDoor
open Go.RowKit Go.Shelf
def aMD(x y:Nat):Value:=.agg #[.int .i64 x,.int .i64 y]
theorem aN7(w:World):(zeroValue 176).run Tryz.prog w=.ok (.agg #[.int .i64 0,.int .i64 0]) w:=by kernel_rfl
theorem aHH:Tryz.prog.underlying 124=some (.map 178 176):=by kernel_rfl
theorem aHS(l:List UInt8)(x y:Nat):((⟨l.toArray⟩:ByteArray).extract x y).data.toList=(l.drop x).take (y- x):=by
 rw[ByteArray.data_extract]
 simp
theorem aTV:(176:TypeId)≠5:=by decide
set_option maxRecDepth 20000 in
set_option maxHeartbeats 1600000 in
theorem aTH(B b mb:Nat)(l:List UInt8)(kb ko n:Nat)(I:Value→Prop)(G:Value→Option Value)(w:World)(h:AskT B b (.map (some mb)) l w)(hO:aF1 w I mb G)(hK:∀v,I v→PK w v)(hI:I (pk kb ko n))(hG:G (pk kb ko n)=none):
  Calls Tryz.prog 149 #[.map (some mb),.pointer (some ⟨b,0,none⟩),pk kb ko n] w fun e w'=>e=.returned (.bool false)∧Below w.heap.size w w':=by
 have hX:=hO.of_block (w':=w.alloc (.cells #[.pointer (some ⟨kb,ko,none⟩),.int .i64 n] 178)) ((aA2 w _).block mb hO.lt)
 have hK':∀v,I v→PK (w.alloc (.cells #[.pointer (some ⟨kb,ko,none⟩),.int .i64 n] 178)) v:=fun v hv=>by
  obtain⟨b1,o1,n1,e,ha⟩:=hK v hv
  obtain⟨⟨c,t,f,hc⟩,-⟩:=ha
  exact⟨b1,o1,n1,e,(hK v hv).elim fun b2 ⟨o2,n2,e2,ha2⟩=>by
   rw[e] at e2
   obtain⟨rfl,-,-⟩:=aS7 e2
   exact ha2.of_block ((aA2 w _).block b1 (Array.getElem?_eq_some_iff.1 hc).1)⟩
 have hrun:=hX.look true (keyK hK') aHH (aN7 _) hI
 rw[if_pos rfl,hG] at hrun
 simp only[pk,Option.getD_none,Option.isSome_none] at hrun
 rw[pk]
 go_enter Tryz.func149,Tryz.ntmps149
 go_wp2_with fail
 go_ret
 exact⟨rfl,aA5 _ _ _⟩
set_option maxRecDepth 20000 in
set_option maxHeartbeats 1600000 in
theorem aRC(B b mb:Nat)(l:List UInt8)(kb ko n x y:Nat)(I:Value→Prop)(G:Value→Option Value)(w:World)(h:AskT B b (.map (some mb)) l w)(hO:aF1 w I mb G)(hK:∀v,I v→PK w v)(hI:I (pk kb ko n))(hG:G (pk kb ko n)=some (aMD x y))(hxy:x≤y)(hy:y≤l.length)(hl:l.length≤1000000)(hl0:0<l.length)(hB:B≤w.heap.size):
  Calls Tryz.prog 149 #[.map (some mb),.pointer (some ⟨b,0,none⟩),pk kb ko n] w fun e w'=>e=.returned (.bool true)∧AskT B b (.map (some mb)) (l++(l.drop x).take (y- x)) w'∧Below B w w'∧Kept b w w':=by
 have hX:=hO.of_block (w':=w.alloc (.cells #[.pointer (some ⟨kb,ko,none⟩),.int .i64 n] 178)) ((aA2 w _).block mb hO.lt)
 have hK':∀v,I v→PK (w.alloc (.cells #[.pointer (some ⟨kb,ko,none⟩),.int .i64 n] 178)) v:=fun v hv=>by
  obtain⟨b1,o1,n1,e,ha⟩:=hK v hv
  obtain⟨⟨c,t,f,hc⟩,-⟩:=ha
  exact⟨b1,o1,n1,e,(hK v hv).elim fun b2 ⟨o2,n2,e2,ha2⟩=>by
   rw[e] at e2
   obtain⟨rfl,-,-⟩:=aS7 e2
   exact ha2.of_block ((aA2 w _).block b1 (Array.getElem?_eq_some_iff.1 hc).1)⟩
 have hrun:=hX.look true (keyK hK') aHH (aN7 _) hI
 rw[if_pos rfl,hG] at hrun
 simp only[pk,aMD,Option.getD_some,Option.isSome_some] at hrun
 rw[pk]
 have hb:=h.lt
 have b2:=aA5 w (.cells #[.pointer (some ⟨kb,ko,none⟩),.int .i64 n] 178) (.cells #[.int .i64 x,.int .i64 y] 176)
 have hT:=h.below b2
 have nS:((w.alloc (.cells #[.pointer (some ⟨kb,ko,none⟩),.int .i64 n] 178)).alloc (.cells #[.int .i64 x,.int .i64 y] 176)).heap[w.heap.size+1]?=some (.cells #[.int .i64 x,.int .i64 y] 176 (0,0)):=aA3 _ _ (by simp)
 have kS:Kept b w ((w.alloc (.cells #[.pointer (some ⟨kb,ko,none⟩),.int .i64 n] 178)).alloc (.cells #[.int .i64 x,.int .i64 y] 176)):=((Lib.OthersKept.refl _ _ w).alloc _).alloc _
 have HT:=aA0 (And.intro hT (And.intro nS (And.intro kS (b2.mono hB))))
 clear hT nS kS b2 hX hK'
 go_enter Tryz.func149,Tryz.ntmps149
 go_wp2_with fail
 obtain⟨hT,nS,kS,b2⟩:=HT.out
 generalize (w.alloc (.cells #[.pointer (some ⟨kb,ko,none⟩),.int .i64 n] 178)).alloc (.cells #[.int .i64 x,.int .i64 y] 176)=X at*
 have hxi:(x:Int)≤(y:Int):=by omega
 have hyi:(y:Int)≤(l.length:Int):=by omega
 have hls:(⟨l.toArray⟩:ByteArray).size=l.length:=by simp[ByteArray.size]
 have hle:((⟨l.toArray⟩:ByteArray).extract x y).size≤l.length:=by
  have e:((⟨l.toArray⟩:ByteArray).extract x y).size=(((⟨l.toArray⟩:ByteArray).extract x y).data.toList).length:=by simp[ByteArray.size]
  rw[e,aHS]
  simp;omega
 have qx0:=(aA1 nS 0 (by simp)).1
 have qx1:=(aA1 nS 1 (by simp)).1
 go_region_with (first
  |(
   go_at_call 86
   refine(aQX B b _ l X.drew hT (by intro e;rw[e] at hl0;simp at hl0)).mono ?_
   rintro e w1 ⟨rfl,h1,hb1,hk1⟩
   have nS1:=hk1.block nS (by omega) aTV
   have q0:=(aA1 nS1 0 (by simp)).1
   have q1:=(aA1 nS1 1 (by simp)).1)
  |(
   go_at_call 114
   refine(aCO B b _ l _ w1 h1 (by omega) (by have:=hb1.size;have:=b2.size;simp at *;omega)).mono ?_
   rintro e w2 ⟨rfl,h2,hb2,hk2⟩))
 all_goals
  go_wp2_with fail
  go_ret
  rw[aHS] at h2
  exact⟨rfl,h2,(b2.drew.trans hb1).trans hb2,(Lib.OthersKept.trans (show Kept b w X.drew from kS) hk1).trans hk2⟩
end Go.Proofs.YtokmgbidmnanpaaGreatDoor
