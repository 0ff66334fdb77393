import Derived.Test.YtokmgbidmnanpaaGreatDoorQ3
import Derived.Shelf.Strings.Builder1
import Derived.Shelf.Strings.Builder2
import Derived.Shelf.Strings.OnBuilder
import Derived.Shelf.Strings.BuilderK
import Derived.Test.YtokmgbidmnanpaaGreatDoorQ1
import Derived.Test.YtokmgbidmnanpaaGreatDoorQ2
import Derived.Lib.FrozenHead2
import Derived.Lib.OthersKept
import Derived.Shelf.RegionOpenPlain
import Derived.Laws.Externs
import Derived.Lib.Walk
import Derived.Deep.AppendLies
set_option linter.unusedSimpArgs false
set_option linter.unusedVariables false
namespace Go.Proofs.YtokmgbidmnanpaaGreatDoor
open Go.RowKit
theorem FRep.parts{w:World}{P:Nat→Prop}{f:F}{c0 c1 c2 c3 c4 c5 c6 c7:Value}(h:FRep w P f (.agg #[c0,c1,c2,c3,c4,c5,c6,c7])):
  c0=.string f.name∧c1=.string f.of∧c2=.bool f.list∧c3=.bool f.must∧c4=.bool f.far∧c5=.bool f.hidden∧c6=.bool f.shared∧∃na nc,c7=.slice na f.needs.length nc∧Strs w P f.needs na∧f.needs.length≤nc∧f.name.size≤maxLen∧f.of.size≤maxLen:=by
 obtain⟨na,nc,hv,h2,h3,h4,h5,-⟩:=h
 simp only[Value.agg.injEq,Array.mk.injEq,List.cons.injEq,and_true] at hv
 obtain⟨e0,e1,e2,e3,e4,e5,e6,e7⟩:=hv
 exact⟨e0,e1,e2,e3,e4,e5,e6,na,nc,e7,h2,h3,h4,h5⟩
def aAC(t:T)(s:ByteArray):Int:=aAI (fun i=>(fth t.fields i).name.toList==s.toList) t.fields.length
def aF7(f:F):Bool:=isT f.of [105,110,116]&&!f.list&&f.must&&!f.far&&!f.hidden&&(f.needs.length:Int)==0
def keyB(t:T):Bool:=t.key.toList.isEmpty||(decide (0≤aAC t t.key)&&aF7 (fth t.fields (aAC t t.key).toNat))
set_option maxHeartbeats 1600000 in
theorem aRT(t:T)(w:World)(B:Nat)(v:Value)(hR:TRep w (·<B) t v)(hB:B≤w.heap.size):
  Calls Tryz.prog 120 #[v] w fun e w'=>e=.returned (.bool (keyB t))∧Below w.heap.size w w':=by
 have hR':=hR
 obtain⟨name,key,fields⟩:=t
 obtain⟨fa,fc,rfl,hK,hnc,hn,ho⟩:=hR
 simp only at hK hnc hn ho
 cases hke:key.toList.isEmpty
 case true=>
  go_enter Tryz.func120,Tryz.ntmps120
  go_wp2_with fail
  go_ret
  exact⟨aA4 (by simp[keyB,hke]),aA2 _ _⟩
 have hcall:∀o,Calls Tryz.prog 113 #[.agg #[.string name,.string key,.slice fa fields.length fc],.string key] (w.alloc o) fun e w'=>e=.returned (.int .i64 (aAC ⟨name,key,fields⟩ key))∧Below (w.alloc o).heap.size (w.alloc o) w':=fun o=>
  aCL ⟨name,key,fields⟩ (w.alloc o) B _ key (hR'.under ((aA2 w o).mono hB)) (by simp;omega)
 have hkb:Hid (keyB ⟨name,key,fields⟩=(decide (0≤aAC ⟨name,key,fields⟩ key)&&aF7 (fth fields (aAC ⟨name,key,fields⟩ key).toNat))):=by
  show _=_;simp[keyB,hke]
 rcases aAB (fun i=>(fth fields i).name.toList==key.toList) fields.length with⟨hix,-⟩| ⟨k,hix,hlt,-,-⟩
 ·have hix':aAC ⟨name,key,fields⟩ key=-1:=hix
  rw[hix'] at hcall hkb
  go_enter Tryz.func120,Tryz.ntmps120
  go_wp2_with (go_at_call 113;refine(hcall _).mono ?_;rintro e w1 ⟨rfl,hb1⟩)
  go_ret
  exact⟨aA4 (by rw[hkb.out];simp),(aA2 w _).trans (hb1.mono (by simp))⟩
 ·have hix':aAC ⟨name,key,fields⟩ key=(k:Int):=hix
  rw[hix'] at hcall hkb
  have h3:=hK.1
  obtain⟨-,C,hA,hr⟩:=hK
  obtain⟨b,off,rfl,hbB,hc⟩:=hA (by omega)
  have hck:=hc k hlt
  obtain⟨e0,e1,e2,e3,e4,e5,e6,na,nc,e7,-⟩:=(hr k hlt).parts
  have E0:=e0
  clear e0
  clear hc hr hA
  have hkf:Hid (keyB ⟨name,key,fields⟩=aF7 (fth fields k)):=by show _=_;rw[hkb.out];simp
  clear hkb
  generalize fth fields k=f at*
  obtain⟨fn,of,l,m,fr,hi,sh,needs⟩:=f
  simp only at E0 e1 e2 e3 e4 e5 e6 e7
  have hcells:∀w1,Below w.heap.size w w1→(w1.cell? ⟨b,off+k*8,none⟩=some (.string fn)∧w1.cell? ⟨b,off+k*8+1,none⟩=some (.string of)∧w1.cell? ⟨b,off+k*8+2,none⟩=some (.bool l)∧w1.cell? ⟨b,off+k*8+3,none⟩=some (.bool m)∧w1.cell? ⟨b,off+k*8+4,none⟩=some (.bool fr)∧w1.cell? ⟨b,off+k*8+5,none⟩=some (.bool hi)∧w1.cell? ⟨b,off+k*8+6,none⟩=some (.bool sh)∧w1.cell? ⟨b,off+k*8+7,none⟩=some (.slice na needs.length nc)):=fun w1 hb=>by
   have hx:∀j,j<8→w1.cell? ⟨b,off+k*8+j,none⟩=some (C k j):=fun j hj=>(hb.cell (p:=⟨b,off+k*8+j,none⟩) (by show b<_;omega)).trans (hck j hj)
   have x0:=hx 0 (by omega);have x1:=hx 1 (by omega);have x2:=hx 2 (by omega);have x3:=hx 3 (by omega)
   have x4:=hx 4 (by omega);have x5:=hx 5 (by omega);have x6:=hx 6 (by omega);have x7:=hx 7 (by omega)
   rw[e1] at x1;rw[e2] at x2;rw[e3] at x3;rw[e4] at x4;rw[e5] at x5;rw[e6] at x6;rw[e7] at x7
   exact⟨by rw[E0] at x0;exact x0,x1,x2,x3,x4,x5,x6,x7⟩
  have hki:(k:Int)<(fields.length:Int):=by omega
  clear hck e1 e2 e3 e4 e5 e6 e7 E0
  cases hof:(of.toList==[105,110,116])
  case false=>
   go_enter Tryz.func120,Tryz.ntmps120
   go_wp2_with (
    go_at_call 113
    refine(hcall _).mono ?_
    rintro e w1 ⟨rfl,hb1⟩
    have hbw:Below w.heap.size w w1:=(aA2 w _).trans (hb1.mono (by simp))
    obtain⟨x0,x1,x2,x3,x4,x5,x6,x7⟩:=hcells w1 hbw
    have hx2:w1.cell? ⟨w.heap.size,2,none⟩=some (.slice (some ⟨b,off,none⟩) fields.length fc):=by rw[hb1.cell (by simp)];simp)
   go_ret
   exact⟨aA4 (by rw[hkf.out];simp[aF7,isT,hof]),hbw.trans ((aA2 w1 _).mono hbw.size)⟩
  cases l
  case true=>
   go_enter Tryz.func120,Tryz.ntmps120
   go_wp2_with (
    go_at_call 113
    refine(hcall _).mono ?_
    rintro e w1 ⟨rfl,hb1⟩
    have hbw:Below w.heap.size w w1:=(aA2 w _).trans (hb1.mono (by simp))
    obtain⟨x0,x1,x2,x3,x4,x5,x6,x7⟩:=hcells w1 hbw
    have hx2:w1.cell? ⟨w.heap.size,2,none⟩=some (.slice (some ⟨b,off,none⟩) fields.length fc):=by rw[hb1.cell (by simp)];simp)
   go_ret
   exact⟨aA4 (by rw[hkf.out];simp[aF7,isT,hof]),hbw.trans ((aA2 w1 _).mono hbw.size)⟩
  cases m
  case false=>
   go_enter Tryz.func120,Tryz.ntmps120
   go_wp2_with (
    go_at_call 113
    refine(hcall _).mono ?_
    rintro e w1 ⟨rfl,hb1⟩
    have hbw:Below w.heap.size w w1:=(aA2 w _).trans (hb1.mono (by simp))
    obtain⟨x0,x1,x2,x3,x4,x5,x6,x7⟩:=hcells w1 hbw
    have hx2:w1.cell? ⟨w.heap.size,2,none⟩=some (.slice (some ⟨b,off,none⟩) fields.length fc):=by rw[hb1.cell (by simp)];simp)
   go_ret
   exact⟨aA4 (by rw[hkf.out];simp[aF7,isT,hof]),hbw.trans ((aA2 w1 _).mono hbw.size)⟩
  cases fr
  case true=>
   go_enter Tryz.func120,Tryz.ntmps120
   go_wp2_with (
    go_at_call 113
    refine(hcall _).mono ?_
    rintro e w1 ⟨rfl,hb1⟩
    have hbw:Below w.heap.size w w1:=(aA2 w _).trans (hb1.mono (by simp))
    obtain⟨x0,x1,x2,x3,x4,x5,x6,x7⟩:=hcells w1 hbw
    have hx2:w1.cell? ⟨w.heap.size,2,none⟩=some (.slice (some ⟨b,off,none⟩) fields.length fc):=by rw[hb1.cell (by simp)];simp)
   go_ret
   exact⟨aA4 (by rw[hkf.out];simp[aF7,isT,hof]),hbw.trans ((aA2 w1 _).mono hbw.size)⟩
  cases hi
  case true=>
   go_enter Tryz.func120,Tryz.ntmps120
   go_wp2_with (
    go_at_call 113
    refine(hcall _).mono ?_
    rintro e w1 ⟨rfl,hb1⟩
    have hbw:Below w.heap.size w w1:=(aA2 w _).trans (hb1.mono (by simp))
    obtain⟨x0,x1,x2,x3,x4,x5,x6,x7⟩:=hcells w1 hbw
    have hx2:w1.cell? ⟨w.heap.size,2,none⟩=some (.slice (some ⟨b,off,none⟩) fields.length fc):=by rw[hb1.cell (by simp)];simp)
   go_ret
   exact⟨aA4 (by rw[hkf.out];simp[aF7,isT,hof]),hbw.trans ((aA2 w1 _).mono hbw.size)⟩
  go_enter Tryz.func120,Tryz.ntmps120
  go_wp2_with (
   go_at_call 113
   refine(hcall _).mono ?_
   rintro e w1 ⟨rfl,hb1⟩
   have hbw:Below w.heap.size w w1:=(aA2 w _).trans (hb1.mono (by simp))
   obtain⟨x0,x1,x2,x3,x4,x5,x6,x7⟩:=hcells w1 hbw
   have hx2:w1.cell? ⟨w.heap.size,2,none⟩=some (.slice (some ⟨b,off,none⟩) fields.length fc):=by rw[hb1.cell (by simp)];simp)
  go_ret
  exact⟨aA4 (by rw[hkf.out];simp[aF7,isT,hof]),hbw.trans ((aA2 w1 _).mono hbw.size)⟩
end Go.Proofs.YtokmgbidmnanpaaGreatDoor
namespace Go.Proofs.YtokmgbidmnanpaaGreatDoor
open Go.RowKit Go.Shelf
def aIS:Go.Shelf.Ren:=⟨fun| 166=>114| 240=>144| 276=>162| n=>n,fun| 0=>0| 3=>3| 4=>4| 5=>5| 9=>9| 20=>20| 37=>22| 70=>120| 72=>122| 75=>100| 80=>119| 164=>205| n=>n,fun| n=>n⟩
theorem aTR:Go.Proofs.Lays.n166 Tryz.prog aIS:={
 mixed:=by kernel_rfl
 f166:=Tryz.func114.trans (congrArg some (by kernel_rfl))
 f240:=Tryz.func144.trans (congrArg some (by kernel_rfl))
 f276:=Tryz.func162.trans (congrArg some (by kernel_rfl))
 t0:=Tryz.underlying0
 a0:=Tryz.isAgg0
 z0:=Tryz.sizeOf0
 v0:=Tryz.zeroValue0
 t3:=Tryz.underlying3
 a3:=Tryz.isAgg3
 z3:=Tryz.sizeOf3
 v3:=Tryz.zeroValue3
 t4:=Tryz.underlying4
 a4:=Tryz.isAgg4
 z4:=Tryz.sizeOf4
 v4:=Tryz.zeroValue4
 t9:=Tryz.underlying9
 a9:=Tryz.isAgg9
 z9:=Tryz.sizeOf9
 v9:=Tryz.zeroValue9
 t20:=Tryz.underlying20
 a20:=Tryz.isAgg20
 z20:=Tryz.sizeOf20
 v20:=Tryz.zeroValue20
 t37:=Tryz.underlying22
 a37:=Tryz.isAgg22
 z37:=Tryz.sizeOf22
 v37:=Tryz.zeroValue22
 t70:=Tryz.underlying120
 a70:=Tryz.isAgg120
 z70:=Tryz.sizeOf120
 v70:=Tryz.zeroValue120
 t72:=Tryz.underlying122
 a72:=Tryz.isAgg122
 z72:=Tryz.sizeOf122
 v72:=Tryz.zeroValue122
 t75:=Tryz.underlying100
 a75:=Tryz.isAgg100
 z75:=Tryz.sizeOf100
 v75:=Tryz.zeroValue100
 t164:=Tryz.underlying205
 a164:=Tryz.isAgg205
 z164:=Tryz.sizeOf205
 v164:=Tryz.zeroValue205 }
theorem aSC:Builder.Extra Tryz.prog aIS:={
 sizeBuilder:=by kernel_rfl
 liesBuilder:=by kernel_rfl
 t5:=Tryz.underlying5
 a5:=Tryz.isAgg5
 z5:=Tryz.sizeOf5
 v5:=Tryz.zeroValue5
 infoByte:=by kernel_rfl
 cellsByte:=by kernel_rfl
 sizeByte:=by kernel_rfl
 neB5:=by decide }
def aJ1:Go.Shelf.Ren:=⟨fun| 167=>115| 240=>144| 276=>162| n=>n,fun| 0=>0| 4=>4| 5=>5| 9=>9| 20=>20| 37=>22| 70=>120| 72=>122| 75=>100| 80=>119| 164=>205| n=>n,fun| n=>n⟩
theorem aTQ:Go.Proofs.Lays.n167 Tryz.prog aJ1:={
 mixed:=by kernel_rfl
 f167:=Tryz.func115.trans (congrArg some (by kernel_rfl))
 f240:=Tryz.func144.trans (congrArg some (by kernel_rfl))
 f276:=Tryz.func162.trans (congrArg some (by kernel_rfl))
 t0:=Tryz.underlying0
 a0:=Tryz.isAgg0
 z0:=Tryz.sizeOf0
 v0:=Tryz.zeroValue0
 t4:=Tryz.underlying4
 a4:=Tryz.isAgg4
 z4:=Tryz.sizeOf4
 v4:=Tryz.zeroValue4
 t5:=Tryz.underlying5
 a5:=Tryz.isAgg5
 z5:=Tryz.sizeOf5
 v5:=Tryz.zeroValue5
 t9:=Tryz.underlying9
 a9:=Tryz.isAgg9
 z9:=Tryz.sizeOf9
 v9:=Tryz.zeroValue9
 t20:=Tryz.underlying20
 a20:=Tryz.isAgg20
 z20:=Tryz.sizeOf20
 v20:=Tryz.zeroValue20
 t37:=Tryz.underlying22
 a37:=Tryz.isAgg22
 z37:=Tryz.sizeOf22
 v37:=Tryz.zeroValue22
 t70:=Tryz.underlying120
 a70:=Tryz.isAgg120
 z70:=Tryz.sizeOf120
 v70:=Tryz.zeroValue120
 t72:=Tryz.underlying122
 a72:=Tryz.isAgg122
 z72:=Tryz.sizeOf122
 v72:=Tryz.zeroValue122
 t75:=Tryz.underlying100
 a75:=Tryz.isAgg100
 z75:=Tryz.sizeOf100
 v75:=Tryz.zeroValue100
 t164:=Tryz.underlying205
 a164:=Tryz.isAgg205
 z164:=Tryz.sizeOf205
 v164:=Tryz.zeroValue205 }
theorem aSR:Builder.Extra Tryz.prog aJ1:={
 sizeBuilder:=by kernel_rfl
 liesBuilder:=by kernel_rfl
 t5:=Tryz.underlying5
 a5:=Tryz.isAgg5
 z5:=Tryz.sizeOf5
 v5:=Tryz.zeroValue5
 infoByte:=by kernel_rfl
 cellsByte:=by kernel_rfl
 sizeByte:=by kernel_rfl
 neB5:=by decide }
def aJA:Go.Shelf.Ren:=⟨fun| 169=>86| n=>n,fun| 0=>0| 3=>3| 5=>5| 9=>9| 37=>22| 70=>120| 72=>122| 80=>119| 127=>182| n=>n,fun| n=>n⟩
theorem aU2:Go.Proofs.Lays.n169 Tryz.prog aJA:={
 mixed:=by kernel_rfl
 f169:=Tryz.func86.trans (congrArg some (by kernel_rfl))
 t0:=Tryz.underlying0
 a0:=Tryz.isAgg0
 z0:=Tryz.sizeOf0
 v0:=Tryz.zeroValue0
 t3:=Tryz.underlying3
 a3:=Tryz.isAgg3
 z3:=Tryz.sizeOf3
 v3:=Tryz.zeroValue3
 t9:=Tryz.underlying9
 a9:=Tryz.isAgg9
 z9:=Tryz.sizeOf9
 v9:=Tryz.zeroValue9
 t37:=Tryz.underlying22
 a37:=Tryz.isAgg22
 z37:=Tryz.sizeOf22
 v37:=Tryz.zeroValue22
 t70:=Tryz.underlying120
 a70:=Tryz.isAgg120
 z70:=Tryz.sizeOf120
 v70:=Tryz.zeroValue120
 t72:=Tryz.underlying122
 a72:=Tryz.isAgg122
 z72:=Tryz.sizeOf122
 v72:=Tryz.zeroValue122
 t127:=Tryz.underlying182
 a127:=Tryz.isAgg182
 z127:=Tryz.sizeOf182
 v127:=Tryz.zeroValue182 }
theorem aTF:Builder.Extra Tryz.prog aJA:={
 sizeBuilder:=by kernel_rfl
 liesBuilder:=by kernel_rfl
 t5:=Tryz.underlying5
 a5:=Tryz.isAgg5
 z5:=Tryz.sizeOf5
 v5:=Tryz.zeroValue5
 infoByte:=by kernel_rfl
 cellsByte:=by kernel_rfl
 sizeByte:=by kernel_rfl
 neB5:=by decide }
def aIF:Go.Shelf.Ren:=⟨fun| 156=>96| 165=>129| 166=>114| 169=>86| 240=>144| 241=>151| 276=>162| 277=>164| n=>n,fun| 0=>0| 3=>3| 4=>4| 5=>5| 9=>9| 20=>20| 31=>29| 37=>22| 70=>120| 72=>122| 75=>100| 76=>158| 80=>119| 127=>182| 164=>205| n=>n,fun| n=>n⟩
theorem aTP:Go.Proofs.Lays.n156 Tryz.prog aIF:={
 mixed:=by kernel_rfl
 f156:=Tryz.func96.trans (congrArg some (by kernel_rfl))
 f165:=Tryz.func129.trans (congrArg some (by kernel_rfl))
 f166:=Tryz.func114.trans (congrArg some (by kernel_rfl))
 f169:=Tryz.func86.trans (congrArg some (by kernel_rfl))
 f240:=Tryz.func144.trans (congrArg some (by kernel_rfl))
 f241:=Tryz.func151.trans (congrArg some (by kernel_rfl))
 f276:=Tryz.func162.trans (congrArg some (by kernel_rfl))
 f277:=Tryz.func164.trans (congrArg some (by kernel_rfl))
 t0:=Tryz.underlying0
 a0:=Tryz.isAgg0
 z0:=Tryz.sizeOf0
 v0:=Tryz.zeroValue0
 t3:=Tryz.underlying3
 a3:=Tryz.isAgg3
 z3:=Tryz.sizeOf3
 v3:=Tryz.zeroValue3
 t4:=Tryz.underlying4
 a4:=Tryz.isAgg4
 z4:=Tryz.sizeOf4
 v4:=Tryz.zeroValue4
 t9:=Tryz.underlying9
 a9:=Tryz.isAgg9
 z9:=Tryz.sizeOf9
 v9:=Tryz.zeroValue9
 t20:=Tryz.underlying20
 a20:=Tryz.isAgg20
 z20:=Tryz.sizeOf20
 v20:=Tryz.zeroValue20
 t31:=Tryz.underlying29
 a31:=Tryz.isAgg29
 z31:=Tryz.sizeOf29
 v31:=Tryz.zeroValue29
 t37:=Tryz.underlying22
 a37:=Tryz.isAgg22
 z37:=Tryz.sizeOf22
 v37:=Tryz.zeroValue22
 t70:=Tryz.underlying120
 a70:=Tryz.isAgg120
 z70:=Tryz.sizeOf120
 v70:=Tryz.zeroValue120
 t72:=Tryz.underlying122
 a72:=Tryz.isAgg122
 z72:=Tryz.sizeOf122
 v72:=Tryz.zeroValue122
 t75:=Tryz.underlying100
 a75:=Tryz.isAgg100
 z75:=Tryz.sizeOf100
 v75:=Tryz.zeroValue100
 t76:=Tryz.underlying158
 a76:=Tryz.isAgg158
 z76:=Tryz.sizeOf158
 v76:=Tryz.zeroValue158
 t127:=Tryz.underlying182
 a127:=Tryz.isAgg182
 z127:=Tryz.sizeOf182
 v127:=Tryz.zeroValue182
 t164:=Tryz.underlying205
 a164:=Tryz.isAgg205
 z164:=Tryz.sizeOf205
 v164:=Tryz.zeroValue205 }
theorem aSQ:Builder.Extra Tryz.prog aIF:={
 sizeBuilder:=by kernel_rfl
 liesBuilder:=by kernel_rfl
 t5:=Tryz.underlying5
 a5:=Tryz.isAgg5
 z5:=Tryz.sizeOf5
 v5:=Tryz.zeroValue5
 infoByte:=by kernel_rfl
 cellsByte:=by kernel_rfl
 sizeByte:=by kernel_rfl
 neB5:=by decide }
theorem aPA(bk o c:Nat)(xs:List ByteArray)(sep:ByteArray)(w:World)(hcells:∀(j:Nat) x,xs[j]?=some x→w.cell? ⟨bk,o+j,none⟩=some (.string x))(hbk:bk<w.heap.size)(hN:xs.length≤140737488355328)(hcap:xs.length≤c)(hlen:(Lib.join (xs.map (·.data.toList)) sep.data.toList).length≤140737488355328):
  Calls Tryz.prog 96 #[.slice (some ⟨bk,o,none⟩) xs.length c,.string sep] w fun e w'=>e=.returned (.string ⟨(Lib.join (xs.map (·.data.toList)) sep.data.toList).toArray⟩)∧Below w.heap.size w w':=Any.strings_Join aTP aSQ bk o c xs sep w hcells hbk hN hcap hlen
def Bld(B b:Nat)(l:List UInt8)(w:World):Prop:=Lib.IsBuilderF 122 5 B b (Lib.byteCells l) w
def Kept(b:Nat)(w w':World):Prop:=Lib.OthersKept 5 (some b) w w'
theorem aCF(l m:List UInt8):Lib.byteCells l++Lib.byteCells m=Lib.byteCells (l++m):=by simp[Lib.byteCells]
theorem aBP(B b:Nat)(l:List UInt8)(s:ByteArray)(w:World)(h:Bld B b l w)(hlen:l.length+s.size≤140737488355328)(hBw:B≤w.heap.size):
  Calls Tryz.prog 114 #[.pointer (some ⟨b,0,none⟩),.string s] w fun e w'=>e=.returned (.tuple #[.int .i64 s.size,.nilIface])∧Bld B b (l++s.data.toList) w'∧Below B w w'∧Kept b w w':=
 (Any.Builder_WriteString_k aTR aSC B b _ s w h (by rw[Lib.byteCells_length];exact hlen) hBw).mono fun e w' ⟨h1,h2,h3,h4⟩=>⟨h1,Or.inr (by rw[Lib.strCells_eq,aCF] at h2;exact h2),h3,h4⟩
theorem aF3(B b:Nat)(l:List UInt8)(c:UInt8)(w:World)(h:Bld B b l w)(hlen:l.length+1≤140737488355328)(hBw:B≤w.heap.size):
  Calls Tryz.prog 115 #[.pointer (some ⟨b,0,none⟩),.int .u8 c.toNat] w fun e w'=>e=.returned .nilIface∧Bld B b (l++[c]) w'∧Below B w w'∧Kept b w w':=
 (Any.Builder_WriteByte_k aTQ aSR B b _ c.toNat w h (by rw[Lib.byteCells_length];exact hlen) hBw).mono fun e w' ⟨h1,h2,h3,h4⟩=>⟨h1,Or.inr (by rw[show[Value.int .u8 (c.toNat:Int)]=Lib.byteCells [c] from rfl,aCF] at h2;exact h2),h3,h4⟩
theorem aNK(B b:Nat)(l:List UInt8)(w:World)(h:Bld B b l w)(hBw:B≤w.heap.size):
  Calls Tryz.prog 86 #[.pointer (some ⟨b,0,none⟩)] w fun e w'=>e=.returned (.string ⟨l.toArray⟩)∧Below B w w':=
 (Any.Builder_String_any_k aU2 aTF B b l w h hBw).mono fun e w' ⟨h1,_,h3,_⟩=>⟨h1,h3⟩
theorem Kept.block{b:Nat}{w w':World}(h:Kept b w w'){k:Nat}{cs:Array Value}{t:TypeId}{fz:Nat× Nat}(hk:w.heap[k]?=some (.cells cs t fz))(hne:k≠b)(ht:t≠5):w'.heap[k]?=some (.cells cs t fz):=
 h k _ hk (by intro e;exact hne (Option.some.inj e)) (by intro c z e;injection e with _ e2 _;exact ht e2)
end Go.Proofs.YtokmgbidmnanpaaGreatDoor
namespace Go.Proofs.YtokmgbidmnanpaaGreatDoor
open Go.RowKit
def keyS(s:Se):ByteArray:=if s.al.toList.isEmpty=true then s.name else s.al
def selB(s:Se):Bool:=aAO s.name&&(s.al.toList.isEmpty||(aAO s.al&&!(s.al.toList==s.name.toList)))&&(s.one||decide (s.id=0))&&(decide (0≤s.id)&&decide (s.id≤999999))
def aBV(ks:List Se)(k:ByteArray)(n:Nat):Bool:=(List.range n).all fun i=>!((keyS (sth ks i)).toList==k.toList)
theorem aOC(ks:List Se)(k:ByteArray)(n:Nat):aBV ks k (n+1)=(aBV ks k n&&!((keyS (sth ks n)).toList==k.toList)):=by simp[aBV,List.range_succ]
def okTo:Nat→Nat→List Se→Nat→Bool
 |0,_,_,n=>decide (n=0)
 |f+1,d,ks,n=>(List.range n).all fun i=>selB (sth ks i)&&aBV ks (keyS (sth ks i)) i&&(((sth ks i).kids.isEmpty||decide (d+1≤5))&&okTo f (d+1) (sth ks i).kids (sth ks i).kids.length)
theorem aD9(f d:Nat)(ks:List Se)(n:Nat):okTo (f+1) d ks (n+1)=(okTo (f+1) d ks n&&(selB (sth ks n)&&aBV ks (keyS (sth ks n)) n&&(((sth ks n).kids.isEmpty||decide (d+1≤5))&&okTo f (d+1) (sth ks n).kids (sth ks n).kids.length))):=by
 simp[okTo,List.range_succ]
def FitS:Nat→List Se→Prop
 |0,ks=>ks=[]
 |f+1,ks=>∀i,i<ks.length→FitS f (sth ks i).kids
theorem FitS.of_rep{w:World}{P:Nat→Prop}:∀{f:Nat} {x:Se} {v:Value},SeN w P (f+1) x v→FitS f x.kids
 |0,x,v,h=>by
  obtain⟨ka,kc,C,-,-,-,-,-,hr⟩:=h
  cases e:x.kids with
  |nil=>rfl
  |cons a l=>exact(hr 0 (by rw[e];simp)).elim
 |f+1,x,v,h=>by
  obtain⟨ka,kc,C,-,-,-,-,-,hr⟩:=h
  exact fun i hi=>FitS.of_rep (hr i hi)
def aEJ:Nat→List Se→Prop
 |0,_=>True
 |f+1,ks=>∀i,i<ks.length→(sth ks i).al.size≤1048576∧(sth ks i).name.size≤1048576∧aEJ f (sth ks i).kids
def askB(f:Nat)(ks:List Se):Bool:=!ks.isEmpty&&okTo f 1 ks ks.length&&decide (aBX f ks ks.length≤24)
abbrev Way:=List ByteArray
def aAU:Nat→Way→List Se→Nat→List (Way× Se)
 |0,_,_,_=>[]
 |f+1,ah,ks,n=>(List.range n).flatMap fun i=>(ah++[keyS (sth ks i)],sth ks i)::aAU f (ah++[keyS (sth ks i)]) (sth ks i).kids (sth ks i).kids.length
theorem aBE(f:Nat)(ah:Way)(ks:List Se)(n:Nat):aAU (f+1) ah ks (n+1)=aAU (f+1) ah ks n++(ah++[keyS (sth ks n)],sth ks n)::aAU f (ah++[keyS (sth ks n)]) (sth ks n).kids (sth ks n).kids.length:=by
 simp[aAU,List.range_succ]
theorem aGM:∀(f:Nat) (ah:Way) (ks:List Se) (n:Nat),n≤ks.length→FitS f ks→(aAU f ah ks n).length=aBX f ks n
 |0,ah,ks,n,hn,hf=>by
  have:n=0:=by have e:ks=[]:=hf;rw[e] at hn;simpa using hn
  subst this
  simp[aAU,aBX]
 |f+1,ah,ks,0,hn,hf=>by simp[aAU,aBX]
 |f+1,ah,ks,n+1,hn,hf=>by
  rw[aBE,aBN,List.length_append,aGM (f+1) ah ks n (by omega) hf,List.length_cons,aGM f _ _ _ (Nat.le_refl _) (hf n (by omega)),aBD]
  omega
def aCA:Way→List UInt8
 |[]=>[]
 |[a]=>a.toList
 |a::b::l=>a.toList++47::aCA (b::l)
def aJ4(ws:List (List UInt8))(x:Way× Se):Bool:=decide (x.1.length≤5)&&decide (ws.length<24)&&selB x.2&&!(ws.contains (aCA x.1))
def aDG:List (List UInt8)→List (Way× Se)→Bool
 |_,[]=>true
 |ws,x::l=>aJ4 ws x&&aDG (ws++[aCA x.1]) l
theorem aE0:∀(l:List (Way× Se)) (ws:List (List UInt8)),aDG ws l=true↔(∀x∈ l,x.1.length≤5∧selB x.2=true∧aCA x.1∉ ws)∧(l≠[]→ws.length+l.length≤24)∧(l.map fun x=>aCA x.1).Nodup
 |[],ws=>by simp[aDG]
 |x::l,ws=>by
  rw[aDG,Bool.and_eq_true,aE0 l]
  simp only[aJ4,Bool.and_eq_true,decide_eq_true_eq,Bool.not_eq_true',List.contains_eq_mem,decide_eq_false_iff_not,List.mem_append,List.mem_singleton,List.length_append,List.length_singleton,List.mem_cons,List.map_cons,List.nodup_cons,List.mem_map,List.length_cons,not_or,not_exists,not_and,List.not_mem_nil,not_false_eq_true,and_true,List.length_nil]
  constructor
  ·rintro⟨⟨⟨⟨h1,h2⟩,h3⟩,h4⟩,h5,h6,h7⟩
   refine⟨fun y hy=>?_,fun _=>?_,fun y hy e=>?_,h7⟩
   ·rcases hy with rfl| hy
    ·exact⟨h1,h3,h4⟩
    ·exact⟨(h5 y hy).1,(h5 y hy).2.1,(h5 y hy).2.2.1⟩
   ·cases l with
    |nil=>simp;omega
    |cons a l=>have:=h6 (by simp);simp at this ⊢;omega
   ·exact(h5 y hy).2.2.2 e
  ·rintro⟨h1,h2,h3,h4⟩
   have h2':=h2 (by simp)
   refine⟨⟨⟨⟨(h1 x (Or.inl rfl)).1,by omega⟩,(h1 x (Or.inl rfl)).2.1⟩,(h1 x (Or.inl rfl)).2.2⟩,fun y hy=>⟨(h1 y (Or.inr hy)).1,(h1 y (Or.inr hy)).2.1,(h1 y (Or.inr hy)).2.2,fun e=>h3 y hy e⟩,fun _=>by omega,h4⟩
theorem aD1:∀(f:Nat) (ah:Way) (ks:List Se) (n:Nat) (x:Way× Se),x∈ aAU f ah ks n→∃i,i<n∧∃l,x.1=ah++keyS (sth ks i)::l
 |0,ah,ks,n,x,h=>by simp[aAU] at h
 |f+1,ah,ks,0,x,h=>by simp[aAU] at h
 |f+1,ah,ks,n+1,x,h=>by
  rw[aBE,List.mem_append,List.mem_cons] at h
  rcases h with h| h| h
  ·obtain⟨i,hi,l,e⟩:=aD1 (f+1) ah ks n x h
   exact⟨i,by omega,l,e⟩
  ·exact⟨n,by omega,[],by rw[h]⟩
  ·obtain⟨i,hi,l,e⟩:=aD1 f _ _ _ x h
   exact⟨n,by omega,_,by rw[e,List.append_assoc];rfl⟩
theorem aHI(f:Nat)(ah:Way)(ks:List Se):∀(n i:Nat),i<n→(ah++[keyS (sth ks i)],sth ks i)∈ aAU (f+1) ah ks n
 |0,i,h=>by omega
 |n+1,i,h=>by
  rw[aBE,List.mem_append,List.mem_cons]
  by_cases e:i=n
  ·subst e;exact Or.inr (Or.inl rfl)
  ·exact Or.inl (aHI f ah ks n i (by omega))
theorem aM3(f:Nat)(ah:Way)(ks:List Se):∀(n k:Nat),k≤n→aAU (f+1) ah ks k<+:aAU (f+1) ah ks n
 |0,k,h=>by
  have e:k=0:=by omega
  subst e
  exact List.prefix_rfl
 |n+1,k,h=>by
  by_cases e:k=n+1
  ·subst e;exact List.prefix_rfl
  ·rw[aBE]
   exact(aM3 f ah ks n k (by omega)).trans (List.prefix_append _ _)
theorem aDS(ks:List Se)(k:ByteArray)(n:Nat):aBV ks k n=true↔∀i,i<n→(keyS (sth ks i)).toList≠k.toList:=by simp[aBV,List.all_eq_true]
theorem aLI{a b:ByteArray}(h:a.toList=b.toList):a=b:=by
 cases a;cases b
 simpa[ByteArray.toList_eq] using h
theorem aLS:∀(f d:Nat) (ah:Way) (ks:List Se) (n:Nat),ah.length+1=d→(0<n→d≤5)→n≤ks.length→FitS f ks→
  (okTo f d ks n=true↔(∀x∈ aAU f ah ks n,x.1.length≤5∧selB x.2=true)∧((aAU f ah ks n).map Prod.fst).Nodup)
 |0,d,ah,ks,n,hd,h5,hn,hf=>by
  have:n=0:=by have e:ks=[]:=hf;rw[e] at hn;simpa using hn
  subst this
  simp[okTo,aAU]
 |f+1,d,ah,ks,0,hd,h5,hn,hf=>by simp[okTo,aAU]
 |f+1,d,ah,ks,n+1,hd,h5,hn,hf=>by
  have ih:=aLS (f+1) d ah ks n hd (fun h=>h5 (by omega)) (by omega) hf
  have hd5:=h5 (by omega)
  have hfk:=hf n (by omega)
  rw[aD9,aBE,Bool.and_eq_true,ih,List.map_append,List.map_cons,List.nodup_append,List.nodup_cons]
  generalize hs:sth ks n=s at*
  have hsub:∀hk:s.kids=[]∨d+1≤5,(okTo f (d+1) s.kids s.kids.length=true↔_):=fun hk=>aLS f (d+1) (ah++[keyS s]) s.kids s.kids.length (by simp;omega) (fun h=>by
   rcases hk with hk| hk
   ·rw[hk] at h;simp at h
   ·exact hk) (Nat.le_refl _) hfk
  have hroot:(ah++[keyS s])∉ (aAU f (ah++[keyS s]) s.kids s.kids.length).map Prod.fst:=fun h=>by
   obtain⟨x,hx,e⟩:=List.mem_map.1 h
   obtain⟨i,-,l,e2⟩:=aD1 _ _ _ _ _ hx
   rw[e2] at e
   have:=congrArg List.length e
   simp at this
  simp only[Bool.and_eq_true,Bool.or_eq_true,decide_eq_true_eq,List.isEmpty_iff]
  constructor
  ·rintro⟨⟨h1,h2⟩,⟨⟨h3,h4⟩,h6,h7⟩⟩
   obtain⟨h8,h9⟩:=(hsub h6).1 h7
   refine⟨fun x hx=>?_,h2,⟨hroot,h9⟩,fun a ha b hb=>?_⟩
   ·rw[List.mem_append,List.mem_cons] at hx
    rcases hx with hx| hx| hx
    ·exact h1 x hx
    ·rw[hx];exact⟨by simp;omega,h3⟩
    ·exact h8 x hx
   ·obtain⟨x,hx,rfl⟩:=List.mem_map.1 ha
    obtain⟨i,hi,l,e1⟩:=aD1 _ _ _ _ _ hx
    have hb':∃l',b=ah++keyS s::l':=by
     rcases List.mem_cons.1 hb with hb| hb
     ·exact⟨[],hb⟩
     ·obtain⟨y,hy,rfl⟩:=List.mem_map.1 hb
      obtain⟨j,-,l',e2⟩:=aD1 _ _ _ _ _ hy
      exact⟨_,by rw[e2,List.append_assoc];rfl⟩
    obtain⟨l',e2⟩:=hb'
    intro e
    rw[e1,e2] at e
    have:=List.append_cancel_left e
    simp only[List.cons.injEq] at this
    exact(aDS _ _ _).1 h4 i hi (by rw[this.1])
  ·rintro⟨h1,h2,⟨-,h3⟩,h4⟩
   have hs1:=h1 (ah++[keyS s],s) (by rw[List.mem_append,List.mem_cons];exact Or.inr (Or.inl rfl))
   have h6:s.kids=[]∨d+1≤5:=by
    by_cases hk:s.kids=[]
    ·exact Or.inl hk
    ·right
     have hl:0<s.kids.length:=List.length_pos_iff.2 hk
     cases f with
     |zero=>exact absurd hfk hk
     |succ f=>
      have:=(h1 _ (by rw[List.mem_append,List.mem_cons];exact Or.inr (Or.inr (aHI f (ah++[keyS s]) s.kids _ 0 hl)))).1
      simp at this
      omega
   refine⟨⟨fun x hx=>h1 x (by rw[List.mem_append];exact Or.inl hx),h2⟩,⟨⟨hs1.2,?_⟩,h6,(hsub h6).2 ⟨fun x hx=>h1 x (by rw[List.mem_append,List.mem_cons];exact Or.inr (Or.inr hx)),h3⟩⟩⟩
   rw[aDS]
   intro i hi e
   refine h4 (ah++[keyS (sth ks i)]) (List.mem_map.2 ⟨_,aHI f ah ks n i hi,rfl⟩) (ah++[keyS s]) (by simp) ?_
   rw[aLI e]
theorem aUO{a a' x y:List UInt8}(ha:47∉ a)(ha':47∉ a')(h:a++47::x=a'++47::y):a=a'∧x=y:=by
 induction a generalizing a' with
 |nil=>
  cases a' with
  |nil=>simpa using h
  |cons b l=>simp only[List.nil_append,List.cons_append,List.cons.injEq] at h;exact absurd (by rw[←h.1];simp) ha'
 |cons b l ih=>
  cases a' with
  |nil=>simp only[List.nil_append,List.cons_append,List.cons.injEq] at h;exact absurd (by rw[h.1];simp) ha
  |cons b' l'=>
   simp only[List.cons_append,List.cons.injEq] at h
   obtain⟨e1,e2⟩:=ih (fun hm=>ha (List.mem_cons_of_mem _ hm)) (fun hm=>ha' (List.mem_cons_of_mem _ hm)) h.2
   exact⟨by rw[h.1,e1],e2⟩
theorem aNG:∀(u v:Way),u≠[]→v≠[]→(∀a∈ u,(47:UInt8)∉ a.toList)→(∀a∈ v,(47:UInt8)∉ a.toList)→aCA u=aCA v→u=v
 |[],_,h,_,_,_,_=>absurd rfl h
 |_,[],_,h,_,_,_=>absurd rfl h
 |[a],[b],_,_,_,_,e=>by rw[aLI (show a.toList=b.toList from e)]
 |[a],b::c::l,_,_,ha,_,e=>by
  have e':a.toList=b.toList++47::aCA (c::l):=e
  exact absurd (by rw[e'];simp) (ha a (by simp))
 |a::c::l,[b],_,_,_,hb,e=>by
  have e':a.toList++47::aCA (c::l)=b.toList:=e
  exact absurd (by rw[←e'];simp) (hb b (by simp))
 |a::c::l,b::d::m,_,_,ha,hb,e=>by
  have e':a.toList++47::aCA (c::l)=b.toList++47::aCA (d::m):=e
  obtain⟨e1,e2⟩:=aUO (ha a (by simp)) (hb b (by simp)) e'
  have e3:=aNG (c::l) (d::m) (by simp) (by simp) (fun x hx=>ha x (List.mem_cons_of_mem _ hx)) (fun x hx=>hb x (List.mem_cons_of_mem _ hx)) e2
  rw[aLI e1,e3]
theorem aMV(s:ByteArray):∀n i,i<n→aF5 s n=true→wbB (aAH s i)=true
 |0,i,h,_=>by omega
 |n+1,i,h,hw=>by
  rw[aET,Bool.and_eq_true] at hw
  by_cases e:i=n
  ·subst e;exact hw.2
  ·exact aMV s n i (by omega) hw.1
theorem aOU{s:ByteArray}(h:aAO s=true):(47:UInt8)∉ s.toList:=by
 simp only[aAO,Bool.and_eq_true] at h
 have hw:=h.1.1.1.1.1.1.1.1.1.1
 simp only[aE3,Bool.and_eq_true] at hw
 intro hm
 rw[ByteArray.toList_eq] at hm
 obtain⟨i,hi,e⟩:=List.mem_iff_getElem.1 hm
 have h1:=aMV s s.size i (by simpa using hi) hw.2
 have h2:aAH s i=47:=by
  unfold aAH
  rw[List.getD_eq_getElem?_getD,List.getElem?_eq_getElem hi,e]
  rfl
 rw[h2] at h1
 revert h1
 decide
theorem aTB{s:Se}(h:selB s=true):aAO (keyS s)=true:=by
 simp only[selB,Bool.and_eq_true,Bool.or_eq_true] at h
 unfold keyS
 split
 ·exact h.1.1.1
 ·rename_i hne
  rcases h.1.1.2 with h1| h1
  ·exact absurd h1 hne
  ·exact h1.1
theorem aG5:∀(f:Nat) (ah:Way) (ks:List Se) (n:Nat),(∀x∈ aAU f ah ks n,selB x.2=true)→(∀a∈ ah,aAO a=true)→∀x∈ aAU f ah ks n,∀a∈ x.1,aAO a=true
 |0,ah,ks,n,h,ha,x,hx=>by simp[aAU] at hx
 |f+1,ah,ks,0,h,ha,x,hx=>by simp[aAU] at hx
 |f+1,ah,ks,n+1,h,ha,x,hx=>by
  rw[aBE] at h hx
  have hk:aAO (keyS (sth ks n))=true:=aTB (h (ah++[keyS (sth ks n)],sth ks n) (by simp))
  have hak:∀a∈ ah++[keyS (sth ks n)],aAO a=true:=fun a hm=>by
   rcases List.mem_append.1 hm with hm| hm
   ·exact ha a hm
   ·rw[List.mem_singleton.1 hm];exact hk
  rcases List.mem_append.1 hx with hx| hx
  ·exact aG5 (f+1) ah ks n (fun y hy=>h y (List.mem_append.2 (Or.inl hy))) ha x hx
  ·rcases List.mem_cons.1 hx with hx| hx
   ·rw[hx];exact hak
   ·exact aG5 f _ _ _ (fun y hy=>h y (List.mem_append.2 (Or.inr (List.mem_cons_of_mem _ hy)))) hak x hx
theorem aI4{α β:Type}(g:α→β):∀(l:List α),(∀x∈ l,∀y∈ l,g x=g y→x=y)→l.Nodup→(l.map g).Nodup
 |[],_,_=>by simp
 |a::l,h,hn=>by
  rw[List.nodup_cons] at hn
  rw[List.map_cons,List.nodup_cons]
  refine⟨fun hm=>?_,aI4 g l (fun x hx y hy=>h x (List.mem_cons_of_mem _ hx) y (List.mem_cons_of_mem _ hy)) hn.2⟩
  obtain⟨b,hb,e⟩:=List.mem_map.1 hm
  have:=h b (List.mem_cons_of_mem _ hb) a (by simp) e
  exact hn.1 (this▸hb)
theorem aHW{α β:Type}(g:α→β):∀(l:List α),(l.map g).Nodup→l.Nodup
 |[],_=>by simp
 |a::l,h=>by
  rw[List.map_cons,List.nodup_cons] at h
  rw[List.nodup_cons]
  exact⟨fun hm=>h.1 (List.mem_map.2 ⟨a,hm,rfl⟩),aHW g l h.2⟩
theorem aJ7(f:Nat)(ks:List Se)(hf:FitS f ks):askB f ks=(!ks.isEmpty&&aDG [] (aAU f [] ks ks.length)):=by
 unfold askB
 rw[Bool.and_assoc]
 congr 1
 rw[Bool.eq_iff_iff,Bool.and_eq_true,decide_eq_true_eq,aLS f 1 [] ks ks.length rfl (fun _=>by omega) (Nat.le_refl _) hf,aE0,←aGM f [] ks ks.length (Nat.le_refl _) hf]
 generalize hl:aAU f [] ks ks.length=l
 constructor
 ·rintro⟨⟨h1,h2⟩,h3⟩
  refine⟨fun x hx=>⟨(h1 x hx).1,(h1 x hx).2,by simp⟩,fun _=>by simpa using h3,?_⟩
  have hn:=aG5 f [] ks ks.length (by rw[hl];exact fun x hx=>(h1 x hx).2) (by simp)
  rw[hl] at hn
  have e:(l.map fun x=>aCA x.1)=(l.map Prod.fst).map aCA:=by rw[List.map_map];rfl
  rw[e]
  refine aI4 aCA _ (fun u hu v hv huv=>?_) h2
  obtain⟨x,hx,rfl⟩:=List.mem_map.1 hu
  obtain⟨y,hy,rfl⟩:=List.mem_map.1 hv
  have hne:∀z∈ l,z.1≠[]:=fun z hz=>by
   rw[←hl] at hz
   obtain⟨i,-,m,e⟩:=aD1 _ _ _ _ _ hz
   rw[e];simp
  exact aNG _ _ (hne x hx) (hne y hy) (fun a ha=>aOU (hn x hx a ha)) (fun a ha=>aOU (hn y hy a ha)) huv
 ·rintro⟨h1,h2,h3⟩
  refine⟨⟨fun x hx=>⟨(h1 x hx).1,(h1 x hx).2.1⟩,?_⟩,?_⟩
  ·have e:(l.map fun x=>aCA x.1)=(l.map Prod.fst).map aCA:=by rw[List.map_map];rfl
   rw[e] at h3
   exact aHW aCA _ h3
  ·by_cases hl0:l=[]
   ·rw[hl0];simp
   ·have:=h2 hl0
    simpa using this
end Go.Proofs.YtokmgbidmnanpaaGreatDoor
namespace Go.Proofs.YtokmgbidmnanpaaGreatDoor
open Go.RowKit
def decL(n:Nat):List UInt8:=if h:n<10 then[UInt8.ofNat (48+n)] else decL (n / 10)++[UInt8.ofNat (48+n % 10)]
termination_by n
decreasing_by omega
theorem aHE{n:Nat}(h:n<10):decL n=[UInt8.ofNat (48+n)]:=by rw[decL,dif_pos h]
theorem aLH{n:Nat}(h:¬n<10):decL n=decL (n / 10)++[UInt8.ofNat (48+n % 10)]:=by rw[decL,dif_neg h]
theorem aM1:∀(d n:Nat),n<10 ^ (d+1)→(decL n).length≤d+1
 |d,n,h=>by
  by_cases hn:n<10
  ·rw[aHE hn];simp
  ·rw[aLH hn]
   cases d with
   |zero=>simp at h;omega
   |succ d=>
    have:=aM1 d (n / 10) (by rw[Nat.pow_succ] at h;omega)
    simp;omega
def aHM(s:Se):List UInt8:=(if s.al.toList.isEmpty=true then[] else s.al.toList++[58])++s.name.toList++(if s.one=true then 40::decL s.id.toNat++[41] else[])
def aCY:Nat→List Se→Nat→List UInt8
 |0,_,_=>[]
 |f+1,ks,n=>(List.range n).flatMap fun i=>(if i=0 then[] else[44])++aHM (sth ks i)++(if(sth ks i).kids.isEmpty=true then[] else 123::aCY f (sth ks i).kids (sth ks i).kids.length++[125])
theorem aDQ(f:Nat)(ks:List Se)(n:Nat):aCY (f+1) ks (n+1)=aCY (f+1) ks n++((if n=0 then[] else[44])++aHM (sth ks n)++(if(sth ks n).kids.isEmpty=true then[] else 123::aCY f (sth ks n).kids (sth ks n).kids.length++[125])):=by
 simp[aCY,List.range_succ]
def txtL(f:Nat)(ks:List Se):List UInt8:=123::aCY f ks ks.length++[125]
theorem aEG{s:ByteArray}(h:aAO s=true):s.size≤8:=by
 simp only[aAO,Bool.and_eq_true,decide_eq_true_eq] at h
 exact h.1.1.1.1.1.1.1.1.1.2
theorem aC3(s:ByteArray):s.toList.length=s.size:=by rw[ByteArray.toList_eq];simp
theorem aOD{s:Se}(h:selB s=true):0≤s.id∧s.id≤999999:=by
 simp only[selB,Bool.and_eq_true,decide_eq_true_eq] at h
 exact h.2
theorem aN5{s:Se}(h:selB s=true):(aHM s).length≤25:=by
 have hid:=aOD h
 have h1:=aM1 5 s.id.toNat (by omega)
 simp only[selB,Bool.and_eq_true,Bool.or_eq_true] at h
 have h2:=aEG h.1.1.1
 have h3:=aC3 s.name
 have h4:(if s.al.toList.isEmpty=true then([]:List UInt8) else s.al.toList++[58]).length≤9:=by
  split
  ·simp
  ·rename_i hne
   rcases h.1.1.2 with h5| h5
   ·exact absurd h5 hne
   ·have:=aEG h5.1
    have:=aC3 s.al
    simp;omega
 have h5:(if s.one=true then 40::decL s.id.toNat++[41] else[]).length≤8:=by
  split
  ·simp;omega
  ·simp
 unfold aHM
 rw[List.length_append,List.length_append]
 omega
theorem aGT:∀(f d:Nat) (ks:List Se) (n:Nat),n≤ks.length→FitS f ks→okTo f d ks n=true→(aCY f ks n).length≤28*aBX f ks n
 |0,d,ks,n,hn,hf,h=>by simp[aCY]
 |f+1,d,ks,0,hn,hf,h=>by simp[aCY]
 |f+1,d,ks,n+1,hn,hf,h=>by
  rw[aD9] at h
  simp only[Bool.and_eq_true] at h
  obtain⟨h1,⟨h2,-⟩,-,h3⟩:=h
  have i1:=aGT (f+1) d ks n (by omega) hf h1
  have i2:=aGT f (d+1) (sth ks n).kids _ (Nat.le_refl _) (hf n (by omega)) h3
  have i3:=aN5 h2
  rw[aDQ,aBN,aBD]
  have e1:(if n=0 then([]:List UInt8) else[44]).length≤1:=by split<;>simp
  have e2:(if(sth ks n).kids.isEmpty=true then([]:List UInt8) else 123::aCY f (sth ks n).kids (sth ks n).kids.length++[125]).length≤2+(aCY f (sth ks n).kids (sth ks n).kids.length).length:=by
   split
   ·simp
   ·simp;omega
  rw[List.length_append,List.length_append,List.length_append]
  omega
end Go.Proofs.YtokmgbidmnanpaaGreatDoor
namespace Go.Proofs.YtokmgbidmnanpaaGreatDoor
open Go.RowKit Go.Shelf
def AskT(B b:Nat)(m:Value)(l:List UInt8)(w:World):Prop:=
 B≤b∧∃p v,(p=.pointer none∨p=.pointer (some ⟨b,0,none⟩))∧w.heap[b]?=some (.cells #[p,v,m] 126 (0,0))∧w.ownsRowF B 5 1 v l.length (Lib.byteCells l)
def AskU(B b:Nat)(m:Value)(l:List UInt8)(w:World):Prop:=
 B≤b∧∃v,w.heap[b]?=some (.cells #[.pointer (some ⟨b,0,none⟩),v,m] 126 (0,0))∧w.ownsRowF B 5 1 v l.length (Lib.byteCells l)
theorem AskU.t{B b:Nat}{m:Value}{l:List UInt8}{w:World}(h:AskU B b m l w):AskT B b m l w:=by
 obtain⟨h1,v,h2,h3⟩:=h
 exact⟨h1,_,v,Or.inr rfl,h2,h3⟩
theorem aMP:(126:TypeId)≠5:=by decide
theorem AskT.lt{B b:Nat}{m:Value}{l:List UInt8}{w:World}(h:AskT B b m l w):b<w.heap.size:=by
 obtain⟨-,p,v,-,h2,-⟩:=h
 exact(Array.getElem?_eq_some_iff.1 h2).1
theorem AskT.map{B b:Nat}{m:Value}{l:List UInt8}{w:World}(h:AskT B b m l w):w.cell? ⟨b,2,none⟩=some m:=by
 obtain⟨-,p,v,-,h2,-⟩:=h
 rw[Lib.cell_of_heap h2];rfl
theorem AskT.of_blocks{B b:Nat}{m:Value}{l:List UInt8}{w w':World}(h:AskT B b m l w)(e:∀(k:Nat) (c:Array Value) (t:TypeId) (f:Nat× Nat),(t=126∨t=5)→w.heap[k]?=some (Obj.cells c t f)→w'.heap[k]?=some (Obj.cells c t f)):AskT B b m l w':=by
 obtain⟨h1,p,v,hp,h2,h3,h4⟩:=h
 refine⟨h1,p,v,hp,e _ _ _ _ (Or.inl rfl) h2,h3,?_⟩
 rcases h4 with h4| ⟨g,cap,cur,fz,hv,hb,hg,r⟩
 ·exact Or.inl h4
 ·exact Or.inr ⟨g,cap,cur,fz,hv,hb,e _ _ _ _ (Or.inr rfl) hg,r⟩
theorem AskT.below{B b:Nat}{m:Value}{l:List UInt8}{w w':World}(h:AskT B b m l w)(hb:Below w.heap.size w w'):AskT B b m l w':=
 h.of_blocks fun k c t f _ hk=>(hb.block k (Array.getElem?_eq_some_iff.1 hk).1).trans hk
theorem aMR:(Tryz.prog.info? 5).map (fun i=>(i.zero,i.size,i.bytes))=some (some (.int .u8 0),1,1):=by kernel_rfl
theorem aHV:(Tryz.prog.info? 122).map (fun i=>i.size)=some 2:=by kernel_rfl
theorem aNB:liesAt Tryz.prog Tryz.prog.depth 126 (3 / Tryz.prog.cellsOf 126) 0 122 1=true:=by kernel_rfl
set_option maxHeartbeats 1000000 in
set_option maxRecDepth 100000 in
theorem aJZ(b:Nat)(w:World)(h0:w.cell? ⟨b,0,none⟩=some (.pointer (some ⟨b,0,none⟩))):
  Calls Tryz.prog 144 #[.pointer (some ⟨b,0,none⟩)] w fun e w'=>e=.returned (.tuple #[])∧w'=w:=by
 obtain⟨j,hj,-⟩:=Option.map_eq_some_iff.1 aHV
 go_enter Tryz.func144,Tryz.ntmps144
 go_wp2_with fail
 rw[Lib.run_neq_ptr_same w _ Tryz.underlying120 hj]
 go_wp2_with fail
 go_end0
 exact⟨rfl,rfl⟩
set_option maxHeartbeats 1000000 in
set_option maxRecDepth 100000 in
theorem aJB(b:Nat)(w:World)(h0:w.cell? ⟨b,0,none⟩=some (.pointer none))(hsh:w.shape? b=some (126,3))(hfz:w.frozen? ⟨b,0,none⟩=false):
  Calls Tryz.prog 144 #[.pointer (some ⟨b,0,none⟩)] w fun e w'=>e=.returned (.tuple #[])∧w'=w.setCell ⟨b,0,none⟩ (.pointer (some ⟨b,0,none⟩)):=by
 obtain⟨j,hj,hjs⟩:=Option.map_eq_some_iff.1 aHV
 have hx:=run_callFunc_extern (P:=Tryz.prog) Tryz.func162 (by kernel_rfl) (by kernel_rfl) (by kernel_rfl) (e:=Extern.AbiNoEscape.same) (by kernel_rfl)
 go_enter Tryz.func144,Tryz.ntmps144
 go_wp2_with fail
 rw[Lib.run_to_unsafe w ⟨b,0,none⟩ Tryz.underlying120 Tryz.underlying205 hj (by rw[hjs];decide) hsh (Nat.zero_lt_succ 2)]
 simp only[Result.andThen]
 rw[Oper.upon_value]
 go_wp2_with fail
 rw[Lib.run_noEscape]
 simp only[Result.andThen]
 rw[Oper.upon_value]
 go_wp2_with fail
 rw[Lib.run_from_unsafe w ⟨b,0,none⟩ Tryz.underlying205 Tryz.underlying120 hj hsh aNB]
 simp only[Result.andThen]
 rw[Oper.upon_value]
 go_wp2_with fail
 go_end0
 exact⟨rfl,rfl⟩
theorem AskT.used{B b:Nat}{m v:Value}{l:List UInt8}{w:World}(hB:B≤b)(h:w.heap[b]?=some (.cells #[.pointer none,v,m] 126 (0,0)))(ho:w.ownsRowF B 5 1 v l.length (Lib.byteCells l)):
  AskU B b m l (w.setCell ⟨b,0,none⟩ (.pointer (some ⟨b,0,none⟩))):=by
 have hne:=Lib.ownBlock_neF ho h aMP
 refine⟨hB,v,by rw[aA9 h];rfl,ho.kept (row:=some b) ⟨rfl,rfl,rfl,by simp[World.setCell],fun k _ hk=>Below.heap_setCell _ _ _ _ (fun e=>hk (by simp[e]))⟩ (Or.inr hne)⟩
theorem AskU.put{B b:Nat}{m p v v':Value}{l':List UInt8}{w:World}(hB:B≤b)(hp:p=.pointer (some ⟨b,0,none⟩))(h:w.heap[b]?=some (.cells #[p,v,m] 126 (0,0)))(ho:w.ownsRowF B 5 1 v' l'.length (Lib.byteCells l')):
  AskU B b m l' (w.setCell ⟨b,1,none⟩ v'):=by
 subst hp
 have hne:=Lib.ownBlock_neF ho h aMP
 refine⟨hB,v',by rw[aA9 h];rfl,ho.kept (row:=some b) ⟨rfl,rfl,rfl,by simp[World.setCell],fun k _ hk=>Below.heap_setCell _ _ _ _ (fun e=>hk (by simp[e]))⟩ (Or.inr hne)⟩
theorem aKF(B b:Nat)(m:Value)(l:List UInt8)(w:World)(h:AskT B b m l w):
  Calls Tryz.prog 144 #[.pointer (some ⟨b,0,none⟩)] w fun e w'=>e=.returned (.tuple #[])∧AskU B b m l w'∧Below B w w'∧Kept b w w':=by
 obtain⟨hB,p,v,hp,hb,ho⟩:=h
 rcases hp with rfl| rfl
 ·refine(aJB b w (by rw[Lib.cell_of_heap hb];rfl) (by simp[World.shape?,hb]) (Lib.frozen_of_heap hb 0)).mono ?_
  rintro e w' ⟨rfl,rfl⟩
  exact⟨rfl,AskT.used hB hb ho,(Below.refl B w).setCell (p:=⟨b,0,none⟩) hB _,(Lib.OthersKept.refl _ _ w).setCell ⟨b,0,none⟩ rfl _⟩
 ·refine(aJZ b w (by rw[Lib.cell_of_heap hb];rfl)).mono ?_
  rintro e w' ⟨rfl,rfl⟩
  exact⟨rfl,⟨hB,v,hb,ho⟩,Below.refl B _,Lib.OthersKept.refl _ _ _⟩
set_option maxHeartbeats 1000000 in
set_option maxRecDepth 100000 in
theorem aCO(B b:Nat)(m:Value)(l:List UInt8)(s:ByteArray)(w:World)(h:AskT B b m l w)(hlen:l.length+s.size≤140737488355328)(hBw:B≤w.heap.size):
  Calls Tryz.prog 114 #[.pointer (some ⟨b,0,none⟩),.string s] w fun e w'=>e=.returned (.tuple #[.int .i64 s.size,.nilIface])∧AskT B b m (l++s.data.toList) w'∧Below B w w'∧Kept b w w':=by
 obtain⟨i0,hi,hz0,hz1,hz2⟩:=info_parts aMR
 have HC:=aA0 (aKF B b m l w h)
 go_enter Tryz.func114,Tryz.ntmps114
 go_wp2_with fail
 refine HC.out.mono ?_
 rintro e w1 ⟨rfl,⟨hB,v,hbk,hown⟩,hb1,hk1⟩
 have hne:=Lib.ownBlock_neF hown hbk aMP
 have c0:w1.cell? ⟨b,0,none⟩=some (.pointer (some ⟨b,0,none⟩)):=by rw[Lib.cell_of_heap hbk];rfl
 have c1:w1.cell? ⟨b,1,none⟩=some v:=by rw[Lib.cell_of_heap hbk];rfl
 have hz1':=hb1.size
 go_wp2_with (
  at_builtin
  refine Lib.wpList_append_own_stringF _ rfl _ _ 22 9 rfl B 5 i0 Tryz.underlying22 Tryz.underlying9 hi hz0 hz1 hz2 _ _ _ rfl hown s rfl (by unfold maxLen;omega) (by omega) (by omega) ?_)
 intro v' w2 hown' hgrow _
 have hlt:b<w1.heap.size:=(Array.getElem?_eq_some_iff.1 hbk).1
 have hb2:w2.heap[b]?=some (.cells #[.pointer (some ⟨b,0,none⟩),v,m] 126 (0,0)):=by
  rw[hgrow.block b hlt (fun e=>hne e.symm)]
  exact hbk
 have d0:w2.cell? ⟨b,0,none⟩=some (.pointer (some ⟨b,0,none⟩)):=by rw[Lib.cell_of_heap hb2];rfl
 have d1:w2.cell? ⟨b,1,none⟩=some v:=by rw[Lib.cell_of_heap hb2];rfl
 have f1:w2.frozen? ⟨b,1,none⟩=false:=Lib.frozen_of_heap hb2 1
 have HE:=aA0 (And.intro hown' hgrow)
 obtain⟨ao,n',cap,rfl⟩:∃ao n' cap,v'=.slice ao n' cap:=by
  rcases hown'.2 with⟨hv,_⟩| ⟨g,cap,cur,fz,hv,_⟩
  ·exact⟨_,_,_,hv⟩
  ·exact⟨_,_,_,hv⟩
 clear hown' hgrow
 go_wp2_with fail
 go_ret2
 obtain⟨hown',hgrow⟩:=HE.out
 refine⟨rfl,(AskU.put (l':=l++s.data.toList) hB rfl hb2 ?_).t,?_,?_⟩
 ·rw[Lib.strCells_eq,aCF] at hown'
  simpa using hown'
 ·exact(hb1.grown hgrow (by omega) (fun k hk=>(hown.lt k hk).1)).setCell (p:=⟨b,1,none⟩) hB _
 ·exact(hk1.grown hgrow (Lib.ownsRowF_kind hown)).setCell ⟨b,1,none⟩ rfl _
set_option maxHeartbeats 1000000 in
set_option maxRecDepth 100000 in
theorem aHC(B b:Nat)(m:Value)(l:List UInt8)(c:UInt8)(w:World)(h:AskT B b m l w)(hlen:l.length+1≤140737488355328)(hBw:B≤w.heap.size):
  Calls Tryz.prog 115 #[.pointer (some ⟨b,0,none⟩),.int .u8 c.toNat] w fun e w'=>e=.returned .nilIface∧AskT B b m (l++[c]) w'∧Below B w w'∧Kept b w w':=by
 obtain⟨i0,hi,hz0,hz1,hz2⟩:=info_parts aMR
 have HC:=aA0 (aKF B b m l w h)
 go_enter Tryz.func115,Tryz.ntmps115
 go_wp2_with fail
 refine HC.out.mono ?_
 rintro e w1 ⟨rfl,⟨hB,v,hbk,hown⟩,hb1,hk1⟩
 have hne:=Lib.ownBlock_neF hown hbk aMP
 have c0:w1.cell? ⟨b,0,none⟩=some (.pointer (some ⟨b,0,none⟩)):=by rw[Lib.cell_of_heap hbk];rfl
 have c1:w1.cell? ⟨b,1,none⟩=some v:=by rw[Lib.cell_of_heap hbk];rfl
 have hz1':=hb1.size
 have hlt:b<w1.heap.size:=(Array.getElem?_eq_some_iff.1 hbk).1
 go_wp2_with (
  at_builtin
  refine wpList_append_ownF _ rfl _ _ 22 rfl B 5 i0 (.int .u8 0) 1 1 Tryz.underlying22 hi hz0 hz1 hz2 rfl (by decide) _ _ _ rfl (hown.alloc _) ⟨w1.heap.size,0,none⟩ 1 1 [.int .u8 c.toNat] rfl rfl (World.news_of_block (heap_alloc_new w1 _)) (by intro u hu;simp at hu;subst hu;rfl) (by unfold maxLen;omega) (by omega) (by simp;omega) ?_)
 intro v' w2 hown' hgrow _
 have hb2:w2.heap[b]?=some (.cells #[.pointer (some ⟨b,0,none⟩),v,m] 126 (0,0)):=by
  rw[hgrow.block b (by simp;omega) (fun e=>hne e.symm)]
  exact(Lib.alloc_old w1 _ b hlt).trans hbk
 have d0:w2.cell? ⟨b,0,none⟩=some (.pointer (some ⟨b,0,none⟩)):=by rw[Lib.cell_of_heap hb2];rfl
 have d1:w2.cell? ⟨b,1,none⟩=some v:=by rw[Lib.cell_of_heap hb2];rfl
 have f1:w2.frozen? ⟨b,1,none⟩=false:=Lib.frozen_of_heap hb2 1
 have HE:=aA0 (And.intro hown' hgrow)
 obtain⟨ao,n',cap,rfl⟩:∃ao n' cap,v'=.slice ao n' cap:=by
  rcases hown'.2 with⟨hv,_⟩| ⟨g,cap,cur,fz,hv,_⟩
  ·exact⟨_,_,_,hv⟩
  ·exact⟨_,_,_,hv⟩
 clear hown' hgrow
 go_wp2_with fail
 go_ret
 obtain⟨hown',hgrow⟩:=HE.out
 refine⟨rfl,(AskU.put (l':=l++[c]) hB rfl hb2 ?_).t,?_,?_⟩
 ·rw[show[Value.int .u8 (c.toNat:Int)]=Lib.byteCells [c] from rfl,aCF] at hown'
  simpa using hown'
 ·exact((hb1.alloc (by omega) _).grown hgrow (by simp;omega) (fun k hk=>(hown.lt k hk).1)).setCell (p:=⟨b,1,none⟩) hB _
 ·exact((hk1.alloc _).grown hgrow (Lib.ownsRowF_kind (hown.alloc _))).setCell ⟨b,1,none⟩ rfl _
set_option maxHeartbeats 1000000 in
set_option maxRecDepth 100000 in
theorem lenA(B b:Nat)(m:Value)(l:List UInt8)(w:World)(h:AskT B b m l w):
  Calls Tryz.prog 124 #[.pointer (some ⟨b,0,none⟩)] w fun e w'=>e=.returned (.int .i64 l.length)∧w=w':=by
 obtain⟨hB,p,v,-,hbk,hown⟩:=h
 obtain⟨ao,cap,rfl⟩:∃ao cap,v=.slice ao l.length cap:=by
  rcases hown.2 with⟨hv,h0⟩| ⟨g,cap,cur,fz,hv,_⟩
  ·exact⟨none,0,by rw[hv,h0]⟩
  ·exact⟨_,_,hv⟩
 have c1:w.cell? ⟨b,1,none⟩=some (.slice ao l.length cap):=by rw[Lib.cell_of_heap hbk];rfl
 go_enter Tryz.func124,Tryz.ntmps124
 go_wp2_with fail
 go_ret
 exact⟨rfl,rfl⟩
theorem AskT.froze{B b g cap:Nat}{m p:Value}{l:List UInt8}{w:World}(hB:B≤b)(hp:p=.pointer none∨p=.pointer (some ⟨b,0,none⟩))(hbk:w.heap[b]?=some (.cells #[p,.slice (some ⟨g,0,none⟩) l.length cap,m] 126 (0,0)))(ho:w.ownsRowF B 5 1 (.slice (some ⟨g,0,none⟩) l.length cap) l.length (Lib.byteCells l)):
  AskT B b m l (w.freeze ⟨g,0,none⟩ l.length):=by
 have hne:=Lib.ownBlock_neF ho hbk aMP
 have hgb:g≠b:=fun e=>hne (by simp[Value.ownBlock,e])
 unfold World.freeze
 split
 ·exact⟨hB,p,_,hp,hbk,ho⟩
 ·refine⟨hB,p,.slice (some ⟨g,0,none⟩) l.length cap,hp,?_,ho.1,?_⟩
  ·simp only[Array.getElem?_modify]
   rw[if_neg hgb]
   exact hbk
  ·rcases ho.2 with⟨hv,_⟩| ⟨g',cap',cur,fz,hv,hbg,hg,hfz,rest⟩
   ·cases hv
   ·simp only[Value.slice.injEq,Option.some.injEq,Addr.mk.injEq,and_true,true_and] at hv
    obtain⟨rfl,rfl⟩:=hv
    obtain⟨lo,hi⟩:=fz
    refine Or.inr ⟨g,_,cur,(if lo==hi then(0,0+l.length) else(min lo 0,max hi (0+l.length))),rfl,hbg,?_,?_,rest⟩
    ·simp[Array.getElem?_modify,hg]
    ·simp only at hfz
     split<;>simp<;>omega
theorem aPZ:Tryz.prog.cellsOf 5=1:=by kernel_rfl
set_option maxHeartbeats 1000000 in
set_option maxRecDepth 100000 in
theorem aQX(B b:Nat)(m:Value)(l:List UInt8)(w:World)(h:AskT B b m l w)(h0:l≠[]):
  Calls Tryz.prog 86 #[.pointer (some ⟨b,0,none⟩)] w fun e w'=>e=.returned (.string ⟨l.toArray⟩)∧AskT B b m l w'∧Below B w w'∧Kept b w w':=by
 obtain⟨hB,p,v,hp,hbk,hown⟩:=h
 have hl0:l.length≠0:=by simpa using h0
 obtain⟨g,cap,cur,fz,rfl,hbg,hg,hfz,hnc,hcm,hcs,htake⟩:∃g cap cur fz,v=.slice (some ⟨g,0,none⟩) l.length cap∧B≤g∧w.heap[g]?=some (.cells cur 5 fz)∧fz.2≤l.length*1∧l.length≤cap∧cap≤maxLen∧cur.size=cap*1∧cur.toList.take (l.length*1)=Lib.byteCells l:=by
  rcases hown.2 with⟨_,hz⟩| ⟨g,cap,cur,fz,hv,r⟩
  ·exact absurd hz hl0
  ·exact⟨g,cap,cur,fz,hv,r⟩
 have c1:w.drew.cell? ⟨b,1,none⟩=some (.slice (some ⟨g,0,none⟩) l.length cap):=by
  have:w.drew.heap[b]?=some (.cells #[p,.slice (some ⟨g,0,none⟩) l.length cap,m] 126 (0,0)):=hbk
  rw[Lib.cell_of_heap this];rfl
 have hSD:(Builtin.unsafeSliceData_ #[22] 182 #[.slice (some ⟨g,0,none⟩) l.length cap]).run Tryz.prog w.drew=.ok (.pointer (some ⟨g,0,none⟩)) w.drew:=
  Lib.run_unsafeSliceData_row _ _ _ _ _ _ (by omega)
 have hUS:(Builtin.unsafeString_ #[182,3] 9 #[.pointer (some ⟨g,0,none⟩),.int .i64 l.length]).run Tryz.prog w.drew=.ok (.string ⟨l.toArray⟩) (w.drew.freeze ⟨g,0,none⟩ l.length):=by
  refine Lib.run_unsafeString_row w.drew 182 3 9 5 Tryz.underlying182 aPZ g cur.size (by have hg':w.drew.heap[g]?=some (.cells cur 5 fz):=hg;simp[World.shape?,hg']) l h0 (by omega) (by unfold maxLen at hcm;omega) ?_
  intro j x hx
  exact hown.cells (g:=g) rfl j (.int .u8 x.toNat) (by simp[Lib.byteCells,hx])
 have mixed:Tryz.prog.follows Departure.mixedOrders=true:=by kernel_rfl
 have HK:Hid (AskT B b m l (w.drew.freeze ⟨g,0,none⟩ l.length)):=aA0 (AskT.froze (w:=w.drew) hB hp hbk hown)
 go_enter Tryz.func86,Tryz.ntmps86
 go_wp2_with fail
 go_region_o
 all_goals
  go_wp2_with fail
  go_ret
  exact⟨rfl,HK.out,Lib.below_freeze (Below.drew (Below.refl B w)) (p:=⟨g,0,none⟩) hbg _,((Lib.OthersKept.refl _ _ w).drew).freeze ⟨g,0,none⟩ _ ⟨cur,fz,hg⟩⟩
end Go.Proofs.YtokmgbidmnanpaaGreatDoor
