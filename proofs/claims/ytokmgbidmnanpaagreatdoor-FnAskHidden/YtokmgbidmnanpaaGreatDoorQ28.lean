import Derived.Test.YtokmgbidmnanpaaGreatDoorQ9
import Derived.Test.YtokmgbidmnanpaaGreatDoorQ5
import Derived.Test.YtokmgbidmnanpaaGreatDoorQ23
import Derived.Test.YtokmgbidmnanpaaGreatDoorQ26
import Derived.Test.YtokmgbidmnanpaaGreatDoorQ2
set_option linter.unusedSimpArgs false
set_option linter.unusedVariables false
namespace Go.Proofs.YtokmgbidmnanpaaGreatDoor
open Go.RowKit
theorem aT0(w:World):Calls Tryz.prog 147 #[.int .u8 4] w fun e w'=>e=.returned (.string ⟨#[102,97,114]⟩)∧w=w':=by
 go_enter Tryz.func147,Tryz.ntmps147
 go_wp2_with fail
 go_ret
 exact⟨rfl,rfl⟩
theorem aOM(w:World):Calls Tryz.prog 147 #[.int .u8 8] w fun e w'=>e=.returned (.string ⟨#[104,105,100,100,101,110]⟩)∧w=w':=by
 go_enter Tryz.func147,Tryz.ntmps147
 go_wp2_with fail
 go_ret
 exact⟨rfl,rfl⟩
theorem aO1(w:World):Calls Tryz.prog 147 #[.int .u8 16] w fun e w'=>e=.returned (.string ⟨#[115,104,97,114,101,100]⟩)∧w=w':=by
 go_enter Tryz.func147,Tryz.ntmps147
 go_wp2_with fail
 go_ret
 exact⟨rfl,rfl⟩
set_option maxHeartbeats 800000 in
theorem aQL(nm of:ByteArray)(l m fr hi sh:Bool)(needs:List ByteArray)(na:Option Addr)(nl nc:Nat)(w:World)(hs:of.size≤1048576):
  Calls Tryz.prog 145 #[.agg #[.int .u8 (aCC l m fr hi sh),.string nm,.string of,.bool l,.bool m,.bool fr,.bool hi,.bool sh,.slice na nl nc]] w fun e w'=>e=.returned (.string (ofB ⟨nm,of,l,m,fr,hi,sh,needs⟩))∧Below w.heap.size w w':=by
 have h1:=fun w=>aCZ (aCC l m fr hi sh) 1 w
 have h2:=fun w=>aCZ (aCC l m fr hi sh) 2 w
 rw[aR5] at h1
 rw[aMK] at h2
 generalize aCC l m fr hi sh=x at*
 have b1:of.size+1≤9223372036854775807:=by omega
 have b2:of.size+1+1≤9223372036854775807:=by omega
 have b3:1+of.size+1+1≤9223372036854775807:=by omega
 have b4:1+of.size+1≤9223372036854775807:=by omega
 have b5:1+of.size≤9223372036854775807:=by omega
 cases l<;>cases m
 all_goals
  go_enter Tryz.func145,Tryz.ntmps145
  go_wp2_with (first| (go_at_call_of 146 (Value.int IntKind.u8 1);refine(h1 _).mono ?_;rintro e w' ⟨rfl,rfl⟩)| (go_at_call_of 146 (Value.int IntKind.u8 2);refine(h2 _).mono ?_;rintro e w' ⟨rfl,rfl⟩))
  go_ret
  exact⟨rfl,aA2 _ _⟩
end Go.Proofs.YtokmgbidmnanpaaGreatDoor
namespace Go.Proofs.YtokmgbidmnanpaaGreatDoor
open Go.RowKit
def aAG(p:Pt)(i:Nat):Int:=
 if aAW (tth p.types i)=false then 1 else if aDK p.types i (tth p.types i)=true then 2 else if aCB p (tth p.types i).fields (tth p.types i).fields.length=false then 3
 else if keyB (tth p.types i)=false then 4 else if aB1 (tth p.types i) (tth p.types i).fields.length=false then 5 else if aDW (tth p.types i).fields (tth p.types i).fields.length=false then 7 else 0
def aBS(c:Int):Value:=if c=0 then .nilIface else .iface 149 (.int .i64 c)
set_option maxHeartbeats 3200000 in
theorem aLA(p:Pt)(at':Nat)(w:World)(B:Nat)(v:Value)(hP:PRep w (·<B) p v)(hat:at'<p.types.length)(hB:B≤w.heap.size):
  Calls Tryz.prog 107 #[v,.int .i64 at'] w fun e w'=>e=.returned (aBS (aAG p at'))∧Below w.heap.size w w':=by
 have hP':=hP
 obtain⟨pname,types⟩:=p
 obtain⟨ta,tc,rfl,hK,hnc,hpn⟩:=hP
 simp only at hK hnc hpn hat hP'
 have h56:=hK.1
 have HC:Hid (aAG ⟨pname,types⟩ at'=if aAW (tth types at')=false then 1 else if aDK types at' (tth types at')=true then 2 else if aCB ⟨pname,types⟩ (tth types at').fields (tth types at').fields.length=false then 3 else if keyB (tth types at')=false then 4 else if aB1 (tth types at') (tth types at').fields.length=false then 5 else if aDW (tth types at').fields (tth types at').fields.length=false then 7 else 0):=rfl
 obtain⟨b,off,fa,fc,hta,htr,hcs⟩:=hK.at hB at' hat
 subst hta
 have BX:∀W,Below (w.heap.size+1+1) ((w.alloc (.cells #[.string pname,.slice (some ⟨b,off,none⟩) types.length tc] 43)).alloc (.cells #[.string (tth types at').name,.string (tth types at').key,.slice fa (tth types at').fields.length fc] 52)) W→W.cell? ⟨w.heap.size,0,none⟩=some (.string pname)∧W.cell? ⟨w.heap.size,1,none⟩=some (.slice (some ⟨b,off,none⟩) types.length tc)∧W.cell? ⟨w.heap.size+1,0,none⟩=some (.string (tth types at').name)∧W.cell? ⟨w.heap.size+1,1,none⟩=some (.string (tth types at').key)∧W.cell? ⟨w.heap.size+1,2,none⟩=some (.slice fa (tth types at').fields.length fc)∧Below w.heap.size w W∧w.heap.size+1<W.heap.size:=fun W h=>by
  have hz:=h.size
  simp at hz
  have a:∀i (hi:i<2),W.cell? ⟨w.heap.size,i,none⟩=some #[Value.string pname,.slice (some ⟨b,off,none⟩) types.length tc][i]:=fun i hi=>(h.cell (p:=⟨w.heap.size,i,none⟩) (by show w.heap.size<_;omega)).trans (((aA2 _ _).cell (p:=⟨w.heap.size,i,none⟩) (by show w.heap.size<_;simp)).trans (aBQ _ _ i (by simpa using hi)))
  have c:∀i (hi:i<3),W.cell? ⟨w.heap.size+1,i,none⟩=some #[Value.string (tth types at').name,.string (tth types at').key,.slice fa (tth types at').fields.length fc][i]:=fun i hi=>(h.cell (p:=⟨w.heap.size+1,i,none⟩) (by show w.heap.size+1<_;omega)).trans (by simp)
  exact⟨a 0 (by omega),a 1 (by omega),c 0 (by omega),c 1 (by omega),c 2 (by omega),(aA5 w _ _).trans (h.mono (by omega)),by omega⟩
 have hT0:=Below.refl (w.heap.size+1+1) ((w.alloc (.cells #[.string pname,.slice (some ⟨b,off,none⟩) types.length tc] 43)).alloc (.cells #[.string (tth types at').name,.string (tth types at').key,.slice fa (tth types at').fields.length fc] 52))
 have TR:=fun W (h:Below (w.heap.size+1+1) ((w.alloc (.cells #[.string pname,.slice (some ⟨b,off,none⟩) types.length tc] 43)).alloc (.cells #[.string (tth types at').name,.string (tth types at').key,.slice fa (tth types at').fields.length fc] 52)) W)=>htr.under ((BX W h).2.2.2.2.2.1.mono hB)
 have hBW:=fun W (h:Below (w.heap.size+1+1) ((w.alloc (.cells #[.string pname,.slice (some ⟨b,off,none⟩) types.length tc] 43)).alloc (.cells #[.string (tth types at').name,.string (tth types at').key,.slice fa (tth types at').fields.length fc] 52)) W)=>show B≤W.heap.size by have:=(BX W h).2.2.2.2.2.2;omega
 have h1:=fun W h=>aHF (tth types at') W B _ (TR W h) (hBW W h)
 have h2:=fun W h=>aJC types at' (tth types at') W B (some ⟨b,off,none⟩) tc _ (hK.under ((BX W h).2.2.2.2.2.1.mono hB)) (by omega) (TR W h) (hBW W h)
 have h3:=fun W h=>aIQ ⟨pname,types⟩ (tth types at') W B _ _ (hP'.under ((BX W h).2.2.2.2.2.1.mono hB)) (TR W h) (hBW W h)
 have h4:=fun W h=>aK2 (tth types at') W B _ (TR W h) (hBW W h)
 have h5:=fun W h=>aJY (tth types at') W B _ (TR W h) (hBW W h)
 have h6:=fun W h=>aI6 (tth types at') W B _ (TR W h) (hBW W h)
 obtain⟨c0,c1,c2⟩:=(fun o=>hcs (w.alloc o) (aA2 w o)) |> fun q=>(⟨fun o=>(q o).1,fun o=>(q o).2.1,fun o=>(q o).2.2⟩:(∀o,(w.alloc o).cell? ⟨b,off+at'*3,none⟩=_)∧(∀o,(w.alloc o).cell? ⟨b,off+at'*3+1,none⟩=_)∧(∀o,(w.alloc o).cell? ⟨b,off+at'*3+2,none⟩=_))
 clear hcs TR hBW
 have hai:(at':Int)<(types.length:Int):=by omega
 have hal:(at':Int)≤(tc:Int):=by omega
 cases x1:aAW (tth types at')
 ·rw[x1] at h1
  have hcode:Hid (aBS (aAG ⟨pname,types⟩ at')=.iface 149 (.int .i64 1)):=by show _=_;rw[HC.out];simp[aBS,x1]
  go_enter Tryz.func107,Tryz.ntmps107
  go_wp2_with (first
   |(
    go_at_call 137
    refine(h1 _ hT0).mono ?_
    rintro e w1 ⟨rfl,hb1⟩
    have hT1:=hT0.trans (hb1.mono (by simp))
    obtain⟨p10,p11,t10,t11,t12,hw1,hz1⟩:=BX w1 hT1))
  go_ret
  exact⟨by rw[hcode.out];rfl,hw1⟩
 rw[x1] at h1
 cases x2:aDK types at' (tth types at')
 rotate_left
 ·rw[x2] at h2
  have hcode:Hid (aBS (aAG ⟨pname,types⟩ at')=.iface 149 (.int .i64 2)):=by show _=_;rw[HC.out];simp[aBS,x1,x2]
  go_enter Tryz.func107,Tryz.ntmps107
  go_wp2_with (first
   |(
    go_at_call 137
    refine(h1 _ hT0).mono ?_
    rintro e w1 ⟨rfl,hb1⟩
    have hT1:=hT0.trans (hb1.mono (by simp))
    obtain⟨p10,p11,t10,t11,t12,hw1,hz1⟩:=BX w1 hT1))
  go_region_held3 (fun w'=>w'.cell? ⟨w.heap.size,1,none⟩=some (.slice (some ⟨b,off,none⟩) types.length tc)∧w'.cell? ⟨w.heap.size+1,0,none⟩=some (.string (tth types at').name)∧w'.cell? ⟨w.heap.size+1,1,none⟩=some (.string (tth types at').key)∧w'.cell? ⟨w.heap.size+1,2,none⟩=some (.slice fa (tth types at').fields.length fc)) (go_keep)
   (first
    |(
     go_at_call 138
     refine(h2 w1.drew hT1.drew).mono ?_
     rintro e w2 ⟨rfl,hb2⟩
     have hT2:=hT1.trans ((aA6 hb2).mono (by omega))
     obtain⟨p20,p21,t20,t21,t22,hw2,hz2⟩:=BX w2 hT2))
  go_wp2_with fail
  go_ret
  exact⟨by rw[hcode.out];rfl,hw2⟩
 rw[x2] at h2
 cases x3:aCB ⟨pname,types⟩ (tth types at').fields (tth types at').fields.length
 ·rw[x3] at h3
  have hcode:Hid (aBS (aAG ⟨pname,types⟩ at')=.iface 149 (.int .i64 3)):=by show _=_;rw[HC.out];simp[aBS,x1,x2,x3]
  go_enter Tryz.func107,Tryz.ntmps107
  go_wp2_with (first
   |(
    go_at_call 137
    refine(h1 _ hT0).mono ?_
    rintro e w1 ⟨rfl,hb1⟩
    have hT1:=hT0.trans (hb1.mono (by simp))
    obtain⟨p10,p11,t10,t11,t12,hw1,hz1⟩:=BX w1 hT1))
  go_region_held3 (fun w'=>w'.cell? ⟨w.heap.size,1,none⟩=some (.slice (some ⟨b,off,none⟩) types.length tc)∧w'.cell? ⟨w.heap.size+1,0,none⟩=some (.string (tth types at').name)∧w'.cell? ⟨w.heap.size+1,1,none⟩=some (.string (tth types at').key)∧w'.cell? ⟨w.heap.size+1,2,none⟩=some (.slice fa (tth types at').fields.length fc)) (go_keep)
   (first
    |(
     go_at_call 138
     refine(h2 w1.drew hT1.drew).mono ?_
     rintro e w2 ⟨rfl,hb2⟩
     have hT2:=hT1.trans ((aA6 hb2).mono (by omega))
     obtain⟨p20,p21,t20,t21,t22,hw2,hz2⟩:=BX w2 hT2))
  go_wp2_with (first
   |(
    go_at_call 139
    refine(h3 w2 hT2).mono ?_
    rintro e w3 ⟨rfl,hb3⟩
    have hT3:=hT2.trans (hb3.mono (by omega))
    obtain⟨p30,p31,t30,t31,t32,hw3,hz3⟩:=BX w3 hT3))
  go_ret
  exact⟨by rw[hcode.out];rfl,hw3⟩
 rw[x3] at h3
 cases x4:keyB (tth types at')
 ·rw[x4] at h4
  have hcode:Hid (aBS (aAG ⟨pname,types⟩ at')=.iface 149 (.int .i64 4)):=by show _=_;rw[HC.out];simp[aBS,x1,x2,x3,x4]
  go_enter Tryz.func107,Tryz.ntmps107
  go_wp2_with (first
   |(
    go_at_call 137
    refine(h1 _ hT0).mono ?_
    rintro e w1 ⟨rfl,hb1⟩
    have hT1:=hT0.trans (hb1.mono (by simp))
    obtain⟨p10,p11,t10,t11,t12,hw1,hz1⟩:=BX w1 hT1))
  go_region_held3 (fun w'=>w'.cell? ⟨w.heap.size,1,none⟩=some (.slice (some ⟨b,off,none⟩) types.length tc)∧w'.cell? ⟨w.heap.size+1,0,none⟩=some (.string (tth types at').name)∧w'.cell? ⟨w.heap.size+1,1,none⟩=some (.string (tth types at').key)∧w'.cell? ⟨w.heap.size+1,2,none⟩=some (.slice fa (tth types at').fields.length fc)) (go_keep)
   (first
    |(
     go_at_call 138
     refine(h2 w1.drew hT1.drew).mono ?_
     rintro e w2 ⟨rfl,hb2⟩
     have hT2:=hT1.trans ((aA6 hb2).mono (by omega))
     obtain⟨p20,p21,t20,t21,t22,hw2,hz2⟩:=BX w2 hT2))
  go_wp2_with (first
   |(
    go_at_call 139
    refine(h3 w2 hT2).mono ?_
    rintro e w3 ⟨rfl,hb3⟩
    have hT3:=hT2.trans (hb3.mono (by omega))
    obtain⟨p30,p31,t30,t31,t32,hw3,hz3⟩:=BX w3 hT3)
   |(
    go_at_call 140
    refine(h4 w3 hT3).mono ?_
    rintro e w4 ⟨rfl,hb4⟩
    have hT4:=hT3.trans (hb4.mono (by omega))
    obtain⟨p40,p41,t40,t41,t42,hw4,hz4⟩:=BX w4 hT4))
  go_ret
  exact⟨by rw[hcode.out];rfl,hw4⟩
 rw[x4] at h4
 cases x5:aB1 (tth types at') (tth types at').fields.length
 ·rw[x5] at h5
  have hcode:Hid (aBS (aAG ⟨pname,types⟩ at')=.iface 149 (.int .i64 5)):=by show _=_;rw[HC.out];simp[aBS,x1,x2,x3,x4,x5]
  go_enter Tryz.func107,Tryz.ntmps107
  go_wp2_with (first
   |(
    go_at_call 137
    refine(h1 _ hT0).mono ?_
    rintro e w1 ⟨rfl,hb1⟩
    have hT1:=hT0.trans (hb1.mono (by simp))
    obtain⟨p10,p11,t10,t11,t12,hw1,hz1⟩:=BX w1 hT1))
  go_region_held3 (fun w'=>w'.cell? ⟨w.heap.size,1,none⟩=some (.slice (some ⟨b,off,none⟩) types.length tc)∧w'.cell? ⟨w.heap.size+1,0,none⟩=some (.string (tth types at').name)∧w'.cell? ⟨w.heap.size+1,1,none⟩=some (.string (tth types at').key)∧w'.cell? ⟨w.heap.size+1,2,none⟩=some (.slice fa (tth types at').fields.length fc)) (go_keep)
   (first
    |(
     go_at_call 138
     refine(h2 w1.drew hT1.drew).mono ?_
     rintro e w2 ⟨rfl,hb2⟩
     have hT2:=hT1.trans ((aA6 hb2).mono (by omega))
     obtain⟨p20,p21,t20,t21,t22,hw2,hz2⟩:=BX w2 hT2))
  go_wp2_with (first
   |(
    go_at_call 139
    refine(h3 w2 hT2).mono ?_
    rintro e w3 ⟨rfl,hb3⟩
    have hT3:=hT2.trans (hb3.mono (by omega))
    obtain⟨p30,p31,t30,t31,t32,hw3,hz3⟩:=BX w3 hT3)
   |(
    go_at_call 140
    refine(h4 w3 hT3).mono ?_
    rintro e w4 ⟨rfl,hb4⟩
    have hT4:=hT3.trans (hb4.mono (by omega))
    obtain⟨p40,p41,t40,t41,t42,hw4,hz4⟩:=BX w4 hT4)
   |(
    go_at_call 141
    refine(h5 w4 hT4).mono ?_
    rintro e w5 ⟨rfl,hb5⟩
    have hT5:=hT4.trans (hb5.mono (by omega))
    obtain⟨p50,p51,t50,t51,t52,hw5,hz5⟩:=BX w5 hT5))
  go_ret
  exact⟨by rw[hcode.out];rfl,hw5⟩
 rw[x5] at h5
 cases x6:aDW (tth types at').fields (tth types at').fields.length
 ·rw[x6] at h6
  have hcode:Hid (aBS (aAG ⟨pname,types⟩ at')=.iface 149 (.int .i64 7)):=by show _=_;rw[HC.out];simp[aBS,x1,x2,x3,x4,x5,x6]
  go_enter Tryz.func107,Tryz.ntmps107
  go_wp2_with (first
   |(
    go_at_call 137
    refine(h1 _ hT0).mono ?_
    rintro e w1 ⟨rfl,hb1⟩
    have hT1:=hT0.trans (hb1.mono (by simp))
    obtain⟨p10,p11,t10,t11,t12,hw1,hz1⟩:=BX w1 hT1))
  go_region_held3 (fun w'=>w'.cell? ⟨w.heap.size,1,none⟩=some (.slice (some ⟨b,off,none⟩) types.length tc)∧w'.cell? ⟨w.heap.size+1,0,none⟩=some (.string (tth types at').name)∧w'.cell? ⟨w.heap.size+1,1,none⟩=some (.string (tth types at').key)∧w'.cell? ⟨w.heap.size+1,2,none⟩=some (.slice fa (tth types at').fields.length fc)) (go_keep)
   (first
    |(
     go_at_call 138
     refine(h2 w1.drew hT1.drew).mono ?_
     rintro e w2 ⟨rfl,hb2⟩
     have hT2:=hT1.trans ((aA6 hb2).mono (by omega))
     obtain⟨p20,p21,t20,t21,t22,hw2,hz2⟩:=BX w2 hT2))
  go_wp2_with (first
   |(
    go_at_call 139
    refine(h3 w2 hT2).mono ?_
    rintro e w3 ⟨rfl,hb3⟩
    have hT3:=hT2.trans (hb3.mono (by omega))
    obtain⟨p30,p31,t30,t31,t32,hw3,hz3⟩:=BX w3 hT3)
   |(
    go_at_call 140
    refine(h4 w3 hT3).mono ?_
    rintro e w4 ⟨rfl,hb4⟩
    have hT4:=hT3.trans (hb4.mono (by omega))
    obtain⟨p40,p41,t40,t41,t42,hw4,hz4⟩:=BX w4 hT4)
   |(
    go_at_call 141
    refine(h5 w4 hT4).mono ?_
    rintro e w5 ⟨rfl,hb5⟩
    have hT5:=hT4.trans (hb5.mono (by omega))
    obtain⟨p50,p51,t50,t51,t52,hw5,hz5⟩:=BX w5 hT5)
   |(
    go_at_call 142
    refine(h6 w5 hT5).mono ?_
    rintro e w6 ⟨rfl,hb6⟩
    have hT6:=hT5.trans (hb6.mono (by omega))
    obtain⟨p60,p61,t60,t61,t62,hw6,hz6⟩:=BX w6 hT6))
  go_ret
  exact⟨by rw[hcode.out];rfl,hw6⟩
 rw[x6] at h6
 have hcode:Hid (aBS (aAG ⟨pname,types⟩ at')=.nilIface):=by show _=_;rw[HC.out];simp[aBS,x1,x2,x3,x4,x5,x6]
 go_enter Tryz.func107,Tryz.ntmps107
 go_wp2_with (first
  |(
   go_at_call 137
   refine(h1 _ hT0).mono ?_
   rintro e w1 ⟨rfl,hb1⟩
   have hT1:=hT0.trans (hb1.mono (by simp))
   obtain⟨p10,p11,t10,t11,t12,hw1,hz1⟩:=BX w1 hT1))
 go_region_held3 (fun w'=>w'.cell? ⟨w.heap.size,1,none⟩=some (.slice (some ⟨b,off,none⟩) types.length tc)∧w'.cell? ⟨w.heap.size+1,0,none⟩=some (.string (tth types at').name)∧w'.cell? ⟨w.heap.size+1,1,none⟩=some (.string (tth types at').key)∧w'.cell? ⟨w.heap.size+1,2,none⟩=some (.slice fa (tth types at').fields.length fc)) (go_keep)
  (first
   |(
    go_at_call 138
    refine(h2 w1.drew hT1.drew).mono ?_
    rintro e w2 ⟨rfl,hb2⟩
    have hT2:=hT1.trans ((aA6 hb2).mono (by omega))
    obtain⟨p20,p21,t20,t21,t22,hw2,hz2⟩:=BX w2 hT2))
 go_wp2_with (first
  |(
   go_at_call 139
   refine(h3 w2 hT2).mono ?_
   rintro e w3 ⟨rfl,hb3⟩
   have hT3:=hT2.trans (hb3.mono (by omega))
   obtain⟨p30,p31,t30,t31,t32,hw3,hz3⟩:=BX w3 hT3)
  |(
   go_at_call 140
   refine(h4 w3 hT3).mono ?_
   rintro e w4 ⟨rfl,hb4⟩
   have hT4:=hT3.trans (hb4.mono (by omega))
   obtain⟨p40,p41,t40,t41,t42,hw4,hz4⟩:=BX w4 hT4)
  |(
   go_at_call 141
   refine(h5 w4 hT4).mono ?_
   rintro e w5 ⟨rfl,hb5⟩
   have hT5:=hT4.trans (hb5.mono (by omega))
   obtain⟨p50,p51,t50,t51,t52,hw5,hz5⟩:=BX w5 hT5)
  |(
   go_at_call 142
   refine(h6 w5 hT5).mono ?_
   rintro e w6 ⟨rfl,hb6⟩
   have hT6:=hT5.trans (hb6.mono (by omega))
   obtain⟨p60,p61,t60,t61,t62,hw6,hz6⟩:=BX w6 hT6))
 go_ret
 exact⟨by rw[hcode.out];rfl,hw6⟩
end Go.Proofs.YtokmgbidmnanpaaGreatDoor
namespace Go.Proofs.YtokmgbidmnanpaaGreatDoor
open Go.RowKit Go.Shelf
theorem aDT{W:World}{b i:Nat}{v:Value}(h:W.cell? ⟨b,i,none⟩=some v):∃o,W.heap[b]?=some o∧o.isCells=true:=by
 cases hb:W.heap[b]? with
 |none=>simp[World.cell?,hb] at h
 |some o=>
  refine⟨o,rfl,?_⟩
  cases o<;>simp_all [World.cell?,Obj.isCells]
theorem aBL.cell{O:Nat→Prop}{A B:World}(h:aBL O A B){b i:Nat}{v:Value}(hb:¬O b)(hc:A.cell? ⟨b,i,none⟩=some v):B.cell? ⟨b,i,none⟩=some v:=by
 obtain⟨o,h1,h2⟩:=aDT hc
 have h3:=h.cells b o hb h1 h2
 exact(World.cell?_of_block (w:=A) (a:=⟨b,i,none⟩) (h3.trans h1.symm)).trans hc
theorem aFN{O O':Nat→Prop}{A B:World}{ns:List ByteArray}{a:Option Addr}(h:Strs A (fun b=>¬O b∧b<A.heap.size) ns a)(k:aBL O A B)(ho:∀b,O' b→O b∨A.heap.size≤b):Strs B (fun b=>¬O' b∧b<B.heap.size) ns a:=by
 obtain⟨h1,h2,h3⟩:=h
 refine⟨fun hn=>?_,h2,h3⟩
 obtain⟨b,off,e,hb,hc⟩:=h1 hn
 exact⟨b,off,e,⟨fun h=>(ho b h).elim hb.1 (fun h'=>by omega),by have:=k.size;omega⟩,fun i hi=>k.cell hb.1 (hc i hi)⟩
theorem aHB{O:Nat→Prop}{A B:World}{ns:List ByteArray}{a:Option Addr}(h:Strs A (fun b=>¬O b∧b<A.heap.size) ns a)(k:Below A.heap.size A B):Strs B (fun b=>¬O b∧b<B.heap.size) ns a:=
 aFN h (aBL.below k) (fun b hb=>Or.inl hb)
theorem aPD{O:Nat→Prop}{A B:World}{lo:Nat}(hO:∀b,O b→lo≤b)(k:aBL O A B):∀{f:Nat} {x:Se} {v:Value},SeN A (·<lo) f x v→SeN B (·<lo) f x v
 |0,_,_,h=>h.elim
 |f+1,x,v,h=>by
  obtain⟨ka,kc,C,h1,h2,h3,h4,hA,hr⟩:=h
  refine⟨ka,kc,C,h1,h2,h3,h4,fun hn=>?_,fun i hi=>aPD hO k (hr i hi)⟩
  obtain⟨b,off,e,hb,hc⟩:=hA hn
  exact⟨b,off,e,hb,fun i hi j hj=>k.cell (fun h=>by have:=hO b h;omega) (hc i hi j hj)⟩
theorem aJP{O:Nat→Prop}{A B:World}{lo:Nat}{ks:List Se}{a:Option Addr}(h:aAA A (·<lo) ks a)(hO:∀b,O b→lo≤b)(k:aBL O A B):aAA B (·<lo) ks a:=by
 obtain⟨h0,C,hA,hr⟩:=h
 refine⟨h0,C,fun hn=>?_,fun i hi=>?_⟩
 ·obtain⟨b,off,e,hb,hc⟩:=hA hn
  exact⟨b,off,e,hb,fun i hi j hj=>k.cell (fun h=>by have:=hO b h;omega) (hc i hi j hj)⟩
 ·obtain⟨f,hf⟩:=hr i hi
  exact⟨f,aPD hO k hf⟩
def ArgT(x:Way× Se)(ar:Array Value)(A:World):Prop:=∃(wa:Option Addr) (wc:Nat) (ka:Option Addr) (kc:Nat),
 ar=#[.slice wa x.1.length wc,.agg #[.string x.2.al,.string x.2.name,.bool x.2.one,.int .i64 x.2.id,.slice ka x.2.kids.length kc]]∧x.1.length≤wc∧Strs A (·<A.heap.size) x.1 wa∧x.2.al.size≤maxLen∧x.2.name.size≤maxLen∧(∀a∈ x.1,a.size≤1048576)∧x.1≠[]
def ArgN(lo:Nat)(O:Nat→Prop)(x:Way× Se)(ar:Array Value)(A:World):Prop:=ArgT x ar A∧∃(g c:Nat) (v:Value),ar=#[.slice (some ⟨g,0,none⟩) x.1.length c,v]∧lo≤g∧g<A.heap.size∧(¬O g)∧∀j,A.frozen? ⟨g,j,none⟩=false
def aV2(J:List (Way× Se)→(Nat→Prop)→World→Prop)(Jx:World→Prop)(O:Nat→Prop)(lo:Nat)(all:List (Way× Se))(A:World)(e:Ending)(B:World):Prop:=
 ∃go,e=.returned (.bool go)∧((go=true∧∃O',J all O' B∧aBL O A B∧(∀b,O' b→O b∨A.heap.size≤b)∧∀b,O' b→lo≤b)∨(go=false∧Jx B))
end Go.Proofs.YtokmgbidmnanpaaGreatDoor
