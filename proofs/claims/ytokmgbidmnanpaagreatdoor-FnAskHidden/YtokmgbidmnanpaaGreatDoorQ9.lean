import Derived.Test.YtokmgbidmnanpaaGreatDoorQ7
import Derived.Test.YtokmgbidmnanpaaGreatDoorQ3
import Derived.Test.YtokmgbidmnanpaaGreatDoorQ1
import Derived.Deep.AppendLies
import Derived.Test.YtokmgbidmnanpaaGreatDoorQ4
set_option linter.unusedSimpArgs false
set_option linter.unusedVariables false
namespace Go.Proofs.YtokmgbidmnanpaaGreatDoor
open Go.RowKit Go.Maps
def Hot(σ:Sh)(b:Nat):Prop:=∃T n,σ b=some (T,n)∧T≠9
theorem Hot.old{σ σ':Sh}{N:Nat}(h:∀b,b<N→σ' b=σ b):∀b,b<N→Hot σ' b→Hot σ b:=fun b hb ⟨T,n,h1,h2⟩=>⟨T,n,by rw[←h b hb];exact h1,h2⟩
def SmF(nn:Nat)(f:F):Prop:=f.name.size≤12∧f.of.size≤12∧f.needs.length≤nn∧∀i,(nth f.needs i).size≤12
def SmT(nf nn:Nat)(t:T):Prop:=t.name.size≤12∧t.key.size≤12∧t.fields.length≤nf∧∀i,SmF nn (fth t.fields i)
theorem SmF.zero(nn:Nat):SmF nn F.zero:=⟨by decide,by decide,Nat.zero_le _,fun i=>by simp[F.zero,nth]⟩
theorem SmT.zero(nf nn:Nat):SmT nf nn T.zero:=⟨by decide,by decide,Nat.zero_le _,fun i=>by simpa[T.zero,fth] using SmF.zero nn⟩
theorem Wf.strs{w:World}{σ:Sh}{B:Bd}(h:Wf w σ B){v:Value}{N:Nat}(hv:SlOk σ 9 N v):∃(a:Option Addr) (c:Nat) (ns:List ByteArray),v=.slice a ns.length c∧Strs w (·<w.heap.size) ns a∧ns.length≤c∧ns.length≤N∧(∀i,(nth ns i).size≤12):=by
 obtain⟨a,len,cap,rfl,h1,h2,h3,h4⟩:=hv
 rcases h4 with⟨rfl,rfl,rfl⟩| ⟨b,rfl,hb⟩
 ·exact⟨none,0,[],rfl,⟨fun h=>absurd rfl h,fun i=>by simp[nth],by simp[maxLen]⟩,by simp,by simp,fun i=>by simp[nth]⟩
 ·have hall:∀i,i<len→∃s:ByteArray,w.cell? ⟨b,i,none⟩=some (.string s)∧s.size≤12:=fun i hi=>by
   obtain⟨v,hc,ho,-⟩:=h.cell hb i 0 (by omega) (by rw[aSV];omega)
   rw[aSV,Nat.mul_one,Nat.add_zero] at hc
   obtain⟨s,rfl,hs⟩:StOk v:=by simpa[aA7] using ho
   exact⟨s,hc,hs⟩
  let f:Fin len→ByteArray:=fun i=>Classical.choose (hall i.val i.isLt)
  have hf:∀i:Fin len,w.cell? ⟨b,i.val,none⟩=some (.string (f i))∧(f i).size≤12:=fun i=>Classical.choose_spec (hall i.val i.isLt)
  have hn:∀i (hi:i<len),nth (List.ofFn f) i=f ⟨i,hi⟩:=fun i hi=>by simp[nth,List.getD_eq_getElem?_getD,hi]
  have hs12:∀i,(nth (List.ofFn f) i).size≤12:=fun i=>by
   by_cases hi:i<len
   ·rw[hn i hi];exact(hf ⟨i,hi⟩).2
   ·simp[nth,List.getD_eq_getElem?_getD,hi]
  refine⟨some ⟨b,0,none⟩,cap,List.ofFn f,by simp,⟨fun _=>⟨b,0,rfl,h.lt hb,fun i hi=>?_⟩,fun i=>by have:=hs12 i;unfold maxLen;omega,by simp;omega⟩,by simpa using h2,by simpa using h1,hs12⟩
  have hi':i<len:=by simpa using hi
  rw[Nat.zero_add,hn i hi']
  exact(hf ⟨i,hi'⟩).1
theorem Wf.field{w:World}{σ:Sh}{B:Bd}(h:Wf w σ B)(C:Nat→Value)(hC:∀j,j<8→aA7 σ B 54 j (C j))(hnn:B.nn≤3):
  ∃f:F,FRep w (·<w.heap.size) f (.agg #[C 0,C 1,C 2,C 3,C 4,C 5,C 6,C 7])∧szF f≤24+13*B.nn∧SmF B.nn f:=by
 obtain⟨s0,e0,z0⟩:StOk (C 0):=by simpa[aA7] using hC 0 (by omega)
 obtain⟨s1,e1,z1⟩:StOk (C 1):=by simpa[aA7] using hC 1 (by omega)
 obtain⟨b2,e2⟩:BoOk (C 2):=by simpa[aA7] using hC 2 (by omega)
 obtain⟨b3,e3⟩:BoOk (C 3):=by simpa[aA7] using hC 3 (by omega)
 obtain⟨b4,e4⟩:BoOk (C 4):=by simpa[aA7] using hC 4 (by omega)
 obtain⟨b5,e5⟩:BoOk (C 5):=by simpa[aA7] using hC 5 (by omega)
 obtain⟨b6,e6⟩:BoOk (C 6):=by simpa[aA7] using hC 6 (by omega)
 have h7:SlOk σ 9 B.nn (C 7):=by simpa[aA7] using hC 7 (by omega)
 obtain⟨a,c,ns,e7,hS,hc,hl,hz⟩:=h.strs h7
 refine⟨⟨s0,s1,b2,b3,b4,b5,b6,ns⟩,⟨a,c,by rw[e0,e1,e2,e3,e4,e5,e6,e7],hS,hc,by simp only[maxLen];omega,by simp only[maxLen];omega,by simp only;omega⟩,?_,z0,z1,hl,hz⟩
 have hsum:∀n,aDD ns n≤12*n:=fun n=>by
  induction n with
  |zero=>simp[aDD]
  |succ n ih=>rw[aFS];have:=hz n;omega
 have:=hsum ns.length
 simp only[szF,szNs]
 omega
theorem Wf.fields{w:World}{σ:Sh}{B:Bd}(h:Wf w σ B){v:Value}{N:Nat}(hv:SlOk σ 54 N v)(hN:N≤1000000)(hnn:B.nn≤3):
  ∃(a:Option Addr) (c:Nat) (fs:List F),v=.slice a fs.length c∧aC6 w (·<w.heap.size) fs a∧fs.length≤c∧fs.length≤N∧(∀i,szF (fth fs i)≤24+13*B.nn)∧(∀i,SmF B.nn (fth fs i)):=by
 obtain⟨a,len,cap,rfl,h1,h2,h3,h4⟩:=hv
 rcases h4 with⟨rfl,rfl,rfl⟩| ⟨b,rfl,hb⟩
 ·exact⟨none,0,[],rfl,⟨by simp,fun _ _=>undef,fun h=>by simp at h,fun i hi=>by simp at hi⟩,by simp,by simp,(fun i=>by simp[fth,F.zero,szF,szNs,aDD]),fun i=>by simpa[fth] using SmF.zero B.nn⟩
 ·have hall:∀i j,i<len→j<8→∃v,w.cell? ⟨b,i*8+j,none⟩=some v∧aA7 σ B 54 j v:=fun i j hi hj=>by
   obtain⟨v,hc,ho,-⟩:=h.cell hb i j (by omega) (by rw[aMC];omega)
   rw[aMC] at hc
   exact⟨v,hc,ho⟩
  have hall':∀i j,∃v,i<len→j<8→w.cell? ⟨b,i*8+j,none⟩=some v∧aA7 σ B 54 j v:=fun i j=>by
   by_cases hi:i<len
   ·by_cases hj:j<8
    ·obtain⟨v,hv⟩:=hall i j hi hj;exact⟨v,fun _ _=>hv⟩
    ·exact⟨undef,fun _ h=>absurd h hj⟩
   ·exact⟨undef,fun h=>absurd h hi⟩
  let C:Nat→Nat→Value:=fun i j=>Classical.choose (hall' i j)
  have hC:∀i j,i<len→j<8→w.cell? ⟨b,i*8+j,none⟩=some (C i j)∧aA7 σ B 54 j (C i j):=fun i j=>Classical.choose_spec (hall' i j)
  have hF:∀i,∃f:F,i<len→FRep w (·<w.heap.size) f (.agg #[C i 0,C i 1,C i 2,C i 3,C i 4,C i 5,C i 6,C i 7])∧szF f≤24+13*B.nn∧SmF B.nn f:=fun i=>by
   by_cases hi:i<len
   ·obtain⟨f,hf⟩:=h.field (C i) (fun j hj=>(hC i j hi hj).2) hnn;exact⟨f,fun _=>hf⟩
   ·exact⟨F.zero,fun h=>absurd h hi⟩
  let f:Nat→F:=fun i=>Classical.choose (hF i)
  have hf:∀i,i<len→FRep w (·<w.heap.size) (f i) (.agg #[C i 0,C i 1,C i 2,C i 3,C i 4,C i 5,C i 6,C i 7])∧szF (f i)≤24+13*B.nn∧SmF B.nn (f i):=fun i=>Classical.choose_spec (hF i)
  have hlen:((List.range len).map f).length=len:=by simp
  have hn:∀i,i<len→fth ((List.range len).map f) i=f i:=fun i hi=>by simp[fth,List.getD_eq_getElem?_getD,hi]
  refine⟨some ⟨b,0,none⟩,cap,(List.range len).map f,by rw[hlen],⟨by rw[hlen];omega,C,fun _=>⟨b,0,rfl,h.lt hb,fun i hi j hj=>?_⟩,fun i hi=>?_⟩,by rw[hlen];exact h2,by rw[hlen];exact h1,fun i=>?_,fun i=>?_⟩
  ·rw[hlen] at hi;rw[Nat.zero_add];exact(hC i j hi hj).1
  ·rw[hlen] at hi;rw[hn i hi];exact(hf i hi).1
  ·by_cases hi:i<len
   ·rw[hn i hi];exact(hf i hi).2.1
   ·simp[fth,List.getD_eq_getElem?_getD,hi,F.zero,szF,szNs,aDD]
  ·by_cases hi:i<len
   ·rw[hn i hi];exact(hf i hi).2.2
   ·have e:fth ((List.range len).map f) i=F.zero:=by simp[fth,List.getD_eq_getElem?_getD,hi]
    rw[e];exact SmF.zero _
theorem Wf.type{w:World}{σ:Sh}{B:Bd}(h:Wf w σ B)(C:Nat→Value)(hC:∀j,j<3→aA7 σ B 52 j (C j))(hnn:B.nn≤3)(hnf:B.nf≤1000000):
  ∃t:T,TRep w (·<w.heap.size) t (.agg #[C 0,C 1,C 2])∧szT t≤24+(25+13*B.nn)*B.nf∧C 0=.string t.name∧SmT B.nf B.nn t:=by
 obtain⟨s0,e0,z0,-⟩:NmOk B.st (C 0):=by simpa[aA7] using hC 0 (by omega)
 obtain⟨s1,e1,z1⟩:StOk (C 1):=by simpa[aA7] using hC 1 (by omega)
 have h2:SlOk σ 54 B.nf (C 2):=by simpa[aA7] using hC 2 (by omega)
 obtain⟨a,c,fs,e2,hS,hc,hl,hz,hsm⟩:=h.fields h2 hnf hnn
 refine⟨⟨s0,s1,fs⟩,⟨a,c,by rw[e0,e1,e2],hS,hc,by simp only[maxLen];omega,by simp only[maxLen];omega⟩,?_,e0,z0,z1,hl,hsm⟩
 have hsum:∀n,aBY fs n≤(24+13*B.nn)*n:=fun n=>by
  induction n with
  |zero=>simp[aBY]
  |succ n ih=>rw[aD0,Nat.mul_succ];have:=hz n;omega
 have:=hsum fs.length
 have h5:(24+13*B.nn)*fs.length≤(24+13*B.nn)*B.nf:=Nat.mul_le_mul_left _ hl
 simp only[szT,szFs]
 have h6:(25+13*B.nn)*B.nf=(24+13*B.nn)*B.nf+B.nf:=by rw[show 25+13*B.nn=(24+13*B.nn)+1 by omega,Nat.add_mul,Nat.one_mul]
 omega
theorem Wf.types{w:World}{σ:Sh}{B:Bd}(h:Wf w σ B){b off len cap c':Nat}(hb:σ b=some (52,cap))(hl:off+len≤cap)(hN:len≤1000000)(hc':len≤c')(hnn:B.nn≤3)(hnf:B.nf≤1000000)(s:ByteArray)(hs:s.size≤12):
  ∃ts:List T,ts.length=len∧PRep w (·<w.heap.size) ⟨s,ts⟩ (.agg #[.string s,.slice (some ⟨b,off*3,none⟩) len c'])∧(∀i,i<len→w.cell? ⟨b,(off+i)*3,none⟩=some (.string (tth ts i).name))∧szP ⟨s,ts⟩≤12+(25+(25+13*B.nn)*B.nf)*len∧(∀i,SmT B.nf B.nn (tth ts i)):=by
 have hall:∀i j,i<len→j<3→∃v,w.cell? ⟨b,(off+i)*3+j,none⟩=some v∧aA7 σ B 52 j v:=fun i j hi hj=>by
  obtain⟨v,hc,ho,-⟩:=h.cell hb (off+i) j (by omega) (by rw[aJ8];omega)
  rw[aJ8] at hc
  exact⟨v,hc,ho⟩
 have hall':∀i j,∃v,i<len→j<3→w.cell? ⟨b,(off+i)*3+j,none⟩=some v∧aA7 σ B 52 j v:=fun i j=>by
  by_cases hi:i<len
  ·by_cases hj:j<3
   ·obtain⟨v,hv⟩:=hall i j hi hj;exact⟨v,fun _ _=>hv⟩
   ·exact⟨undef,fun _ h=>absurd h hj⟩
  ·exact⟨undef,fun h=>absurd h hi⟩
 let C:Nat→Nat→Value:=fun i j=>Classical.choose (hall' i j)
 have hC:∀i j,i<len→j<3→w.cell? ⟨b,(off+i)*3+j,none⟩=some (C i j)∧aA7 σ B 52 j (C i j):=fun i j=>Classical.choose_spec (hall' i j)
 have hF:∀i,∃t:T,i<len→TRep w (·<w.heap.size) t (.agg #[C i 0,C i 1,C i 2])∧szT t≤24+(25+13*B.nn)*B.nf∧C i 0=.string t.name∧SmT B.nf B.nn t:=fun i=>by
  by_cases hi:i<len
  ·obtain⟨f,hf⟩:=h.type (C i) (fun j hj=>(hC i j hi hj).2) hnn hnf;exact⟨f,fun _=>hf⟩
  ·exact⟨T.zero,fun h=>absurd h hi⟩
 let f:Nat→T:=fun i=>Classical.choose (hF i)
 have hf:∀i,i<len→TRep w (·<w.heap.size) (f i) (.agg #[C i 0,C i 1,C i 2])∧szT (f i)≤24+(25+13*B.nn)*B.nf∧C i 0=.string (f i).name∧SmT B.nf B.nn (f i):=fun i=>Classical.choose_spec (hF i)
 have hlen:((List.range len).map f).length=len:=by simp
 have hn:∀i,i<len→tth ((List.range len).map f) i=f i:=fun i hi=>by simp[tth,List.getD_eq_getElem?_getD,hi]
 refine⟨(List.range len).map f,hlen,⟨some ⟨b,off*3,none⟩,c',by rw[hlen],⟨by rw[hlen];omega,C,fun _=>⟨b,off*3,rfl,h.lt hb,fun i hi j hj=>?_⟩,fun i hi=>?_⟩,by rw[hlen];exact hc',by simp only;unfold maxLen;omega⟩,fun i hi=>?_,?_,fun i=>?_⟩
 ·rw[hlen] at hi
  rw[show off*3+i*3+j=(off+i)*3+j by omega]
  exact(hC i j hi hj).1
 ·rw[hlen] at hi;rw[hn i hi];exact(hf i hi).1
 ·rw[hn i hi,←(hf i hi).2.2.1]
  exact(hC i 0 hi (by omega)).1
 ·have hsum:∀n,n≤len→aBT ((List.range len).map f) n≤(24+(25+13*B.nn)*B.nf)*n:=fun n=>by
   induction n with
   |zero=>intro _;simp[aBT]
   |succ n ih=>intro hn';rw[aCK,Nat.mul_succ,hn n (by omega)];have:=(hf n (by omega)).2.1;have:=ih (by omega);omega
  have:=hsum len (Nat.le_refl _)
  simp only[szP,szTs,hlen]
  rw[show 25+(25+13*B.nn)*B.nf=(24+(25+13*B.nn)*B.nf)+1 by omega,Nat.add_mul,Nat.one_mul]
  omega
 ·by_cases hi:i<len
  ·rw[hn i hi];exact(hf i hi).2.2.2
  ·have e:tth ((List.range len).map f) i=T.zero:=by simp[tth,List.getD_eq_getElem?_getD,hi]
   rw[e];exact SmT.zero _ _
end Go.Proofs.YtokmgbidmnanpaaGreatDoor
namespace Go.Proofs.YtokmgbidmnanpaaGreatDoor
open Go.RowKit
def orB(on:Bool)(x s:Int):Int:=if on then bits BinOp.or IntKind.u8 x s else x
theorem aTO(W:World)(N:Nat)(hN:W.heap.size=N)(x s:Int)(c1 c2 c3 c4 c5 c6 c7 c8:Value)(on:Bool):
  Calls Tryz.prog 148 #[.pointer (some ⟨N,0,none⟩),.int .u8 s,.bool on] (W.alloc (.cells #[.int .u8 x,c1,c2,c3,c4,c5,c6,c7,c8] 164)) fun e w'=>e=.returned (.tuple #[])∧W.alloc (.cells #[.int .u8 (orB on x s),c1,c2,c3,c4,c5,c6,c7,c8] 164)=w':=by
 subst hN
 cases on
 ·go_enter Tryz.func148,Tryz.ntmps148
  go_wp2_with fail
  refine bodyPost_end (v:=.tuple #[]) ?res rfl ⟨rfl,rfl⟩
  case res=>simp[results,Tryz.results148,go_sem]
 ·go_enter Tryz.func148,Tryz.ntmps148
  go_wp2_with fail
  refine bodyPost_end (v:=.tuple #[]) ?res rfl ⟨rfl,rfl⟩
  case res=>simp[results,Tryz.results148,go_sem]
def aCC(l m fr hi sh:Bool):Int:=orB sh (orB hi (orB fr (orB m (orB l 0 1) 2) 4) 8) 16
set_option maxHeartbeats 800000 in
theorem aBH(nm of:ByteArray)(l m fr hi sh:Bool)(na:Option Addr)(nl nc:Nat)(w:World):
  Calls Tryz.prog 117 #[.agg #[.string nm,.string of,.bool l,.bool m,.bool fr,.bool hi,.bool sh,.slice na nl nc]] w fun e w'=>e=.returned (.agg #[.int .u8 (aCC l m fr hi sh),.string nm,.string of,.bool l,.bool m,.bool fr,.bool hi,.bool sh,.slice na nl nc])∧Below w.heap.size w w':=by
 go_enter Tryz.func117,Tryz.ntmps117
 go_wp2_with (go_at_call 148;refine(aTO _ _ (by simp) _ _ _ _ _ _ _ _ _ _ _).mono ?_;rintro e w' ⟨rfl,rfl⟩)
 refine bodyPost_ret (v:=.agg #[.int .u8 (aCC l m fr hi sh),.string nm,.string of,.bool l,.bool m,.bool fr,.bool hi,.bool sh,.slice na nl nc]) ?res rfl ⟨rfl,?_⟩
 case res=>simp[results,Tryz.results117,go_sem,aCC]
 exact(((Below.refl _ _).alloc (Nat.le_refl _) _).alloc (by simp) _).alloc (by simp;omega) _
def allB(x s:Int):Bool:=bits BinOp.and IntKind.u8 x s==s
def anyB(x s:Int):Bool:=bits BinOp.and IntKind.u8 x s !=0
theorem aCZ(x s:Int)(w:World):Calls Tryz.prog 146 #[.int .u8 x,.int .u8 s] w fun e w'=>e=.returned (.bool (allB x s))∧w=w':=by
 go_enter Tryz.func146,Tryz.ntmps146
 go_wp2_with fail
 go_ret
 exact⟨rfl,rfl⟩
theorem aHD(x s:Int)(w:World):Calls Tryz.prog 166 #[.int .u8 x,.int .u8 s] w fun e w'=>e=.returned (.bool (anyB x s))∧w=w':=by
 go_enter Tryz.func166,Tryz.ntmps166
 go_wp2_with fail
 go_ret
 exact⟨rfl,rfl⟩
theorem aMK(l m fr hi sh:Bool):allB (aCC l m fr hi sh) 2=m:=by cases l<;>cases m<;>cases fr<;>cases hi<;>cases sh<;>decide
theorem aR5(l m fr hi sh:Bool):allB (aCC l m fr hi sh) 1=l:=by cases l<;>cases m<;>cases fr<;>cases hi<;>cases sh<;>decide
theorem aST(l m fr hi sh:Bool):allB (aCC l m fr hi sh) 4=fr:=by cases l<;>cases m<;>cases fr<;>cases hi<;>cases sh<;>decide
theorem aOG(l m fr hi sh:Bool):allB (aCC l m fr hi sh) 8=hi:=by cases l<;>cases m<;>cases fr<;>cases hi<;>cases sh<;>decide
theorem aNP(l m fr hi sh:Bool):allB (aCC l m fr hi sh) 16=sh:=by cases l<;>cases m<;>cases fr<;>cases hi<;>cases sh<;>decide
theorem aQ2(l m fr hi sh:Bool):allB (aCC l m fr hi sh) 20=(fr&&sh):=by cases l<;>cases m<;>cases fr<;>cases hi<;>cases sh<;>decide
theorem aT6(l m fr hi sh:Bool):anyB (aCC l m fr hi sh) 13=(l||fr||hi):=by cases l<;>cases m<;>cases fr<;>cases hi<;>cases sh<;>decide
theorem aS0(l m fr hi sh:Bool):anyB (aCC l m fr hi sh) 1=l:=by cases l<;>cases m<;>cases fr<;>cases hi<;>cases sh<;>decide
theorem aQZ(l m fr hi sh:Bool):anyB (aCC l m fr hi sh) 7=(l||fr||m):=by cases l<;>cases m<;>cases fr<;>cases hi<;>cases sh<;>decide
end Go.Proofs.YtokmgbidmnanpaaGreatDoor
namespace Go.Proofs.YtokmgbidmnanpaaGreatDoor
open Go.RowKit
def Pt.zero:Pt:=⟨ByteArray.empty,[]⟩
def pth(ps:List Pt)(i:Nat):Pt:=ps.getD i Pt.zero
def sayF(p:Pt)(nm n:ByteArray):F:=aBU (aAY p nm) n
def sayB(p:Pt)(nm n:ByteArray):Bool:=decide (0≤aAC (aAY p nm) n)
def aU8(p:Pt)(nm n:ByteArray):Bool:=sayB p nm n&&!(sayF p nm n).far
def aCQ(ps:List Pt)(nm n:ByteArray):Nat→List Nat
 |0=>[]
 |k+1=>aCQ ps nm n k++if aU8 (pth ps k) nm n=true then[k] else[]
def aBJ(ps:List Pt)(nm n:ByteArray):List Nat:=aCQ ps nm n ps.length
def aQE(ps:List Pt)(nm:ByteArray):Int:=aAI (fun i=>!(aAY (pth ps i) nm).key.toList.isEmpty) ps.length
def keyM(ps:List Pt)(nm:ByteArray):ByteArray:=if 0≤aQE ps nm then(aAY (pth ps (aQE ps nm).toNat) nm).key else ByteArray.empty
def aJR(f g:F):Bool:=(f.of.toList==g.of.toList)&&(f.list==g.list)&&(f.must==g.must)
def cntP(q:Nat→Bool):Nat→Nat
 |0=>0
 |k+1=>cntP q k+if q k=true then 1 else 0
def aAJ(q:Nat→Bool):Nat→Bool
 |0=>true
 |k+1=>aAJ q k&&q k
theorem aMS(q:Nat→Bool):∀n,aAJ q n=true↔∀i,i<n→q i=true
 |0=>by simp[aAJ]
 |n+1=>by
  rw[aAJ,Bool.and_eq_true,aMS q n]
  constructor
  ·rintro⟨h1,h2⟩ i hi
   by_cases e:i=n
   ·subst e;exact h2
   ·exact h1 i (by omega)
  ·exact fun h=>⟨fun i hi=>h i (by omega),h n (by omega)⟩
theorem aB9{q:Nat→Bool}{n i:Nat}(hi:i<n)(h:q i=false):aAJ q n=false:=by
 cases hq:aAJ q n
 ·rfl
 ·rw[(aMS q n).1 hq i hi] at h;cases h
def aLC(ps:List Pt)(nm:ByteArray)(f:F)(i:Nat):Bool:=!(sayB (pth ps i) nm f.name)||aJR f (sayF (pth ps i) nm f.name)
def aL5(ps:List Pt)(nm n:ByteArray)(i:Nat):Bool:=sayB (pth ps i) nm n&&(sayF (pth ps i) nm n).shared
def aAV(ps:List Pt)(nm n:ByteArray)(i:Nat):Bool:=sayB (pth ps i) nm n&&decide (0<(sayF (pth ps i) nm n).needs.length)
def aCW(ps:List Pt)(nm:ByteArray)(f:F):Bool:=aAJ (fun i=>aAJ (fun k=>!(aAV ps nm (nth f.needs i) k)) ps.length) f.needs.length
def aB2(ps:List Pt)(nm:ByteArray)(f:F):Int:=
 if aAJ (aLC ps nm f) ps.length=false then 3
 else if(aBJ ps nm f.name).length=0 then 6
 else if 1<(aBJ ps nm f.name).length∧(f.name.toList==(keyM ps nm).toList)=false∧cntP (aL5 ps nm f.name) ps.length<(aBJ ps nm f.name).length then 5
 else if 0<cntP (aAV ps nm f.name) ps.length∧1<(aBJ ps nm f.name).length then 7
 else if aCW ps nm f=false then 7
 else 0
def aUF(ps:List Pt)(t:T):Bool:=t.key.toList.isEmpty||(t.key.toList==(keyM ps t.name).toList)
def aCH(ps:List Pt)(t:T):Bool:=aUF ps t&&aAJ (fun n=>aB2 ps t.name (fth t.fields n)==0) t.fields.length
def aK6(ps:List Pt)(okp:Pt→Bool)(i:Nat):Bool:=okp (pth ps i)&&aAJ (fun k=>!((pth ps k).name.toList==(pth ps i).name.toList)) i
def aBO(ps:List Pt)(okp:Pt→Bool):Bool:=decide (0<ps.length)&&decide (ps.length≤4)&&aAJ (aK6 ps okp) ps.length&&aAJ (fun i=>aAJ (fun k=>aCH ps (tth (pth ps i).types k)) (pth ps i).types.length) ps.length
def putF(t:T)(f:F):T:=
 if 0≤aAC t f.name then
  { t with fields:=t.fields.set (aAC t f.name).toNat { (fth t.fields (aAC t f.name).toNat) with hidden:=(fth t.fields (aAC t f.name).toNat).hidden||f.hidden,needs:=if f.needs.length=0 then(fth t.fields (aAC t f.name).toNat).needs else f.needs } }
 else { t with fields:=t.fields++[⟨f.name,f.of,f.list,f.must,false,f.hidden,false,f.needs⟩] }
def aGL(o t:T):Nat→T
 |0=>o
 |n+1=>putF (aGL o t n) (fth t.fields n)
def tyIx(out:List T)(nm:ByteArray):Int:=aAI (fun i=>(tth out i).name.toList==nm.toList) out.length
def aQP(ps:List Pt)(out:List T)(t:T):List T:=
 if 0≤tyIx out t.name then out.set (tyIx out t.name).toNat (aGL (tth out (tyIx out t.name).toNat) t t.fields.length)
 else out++[aGL ⟨t.name,keyM ps t.name,[]⟩ t t.fields.length]
def aCJ(ps:List Pt)(p:Pt)(out:List T):Nat→List T
 |0=>out
 |k+1=>aQP ps (aCJ ps p out k) (tth p.types k)
def aC4(ps:List Pt):Nat→List T
 |0=>[]
 |i+1=>aCJ ps (pth ps i) (aC4 ps i) (pth ps i).types.length
def allM(ps:List Pt):Pt:=⟨⟨#[97]⟩,aC4 ps ps.length⟩
def aKV(ps:List Pt)(okp:Pt→Bool):Bool:=aBO ps okp&&okp (allM ps)
end Go.Proofs.YtokmgbidmnanpaaGreatDoor
namespace Go.Proofs.YtokmgbidmnanpaaGreatDoor
open Go.RowKit
def aCR(w:World)(P:Nat→Prop)(ps:List Pt)(a:Option Addr):Prop:=40*ps.length≤281474976710656∧∃C:Nat→Nat→Value,Arr w P 2 ps.length a C∧∀i,i<ps.length→PRep w P (pth ps i) (.agg #[C i 0,C i 1])
theorem aCR.mono{w w':World}{P:Nat→Prop}{ps:List Pt}{a:Option Addr}(h:aCR w P ps a)(e:∀k,P k→w'.heap[k]?=w.heap[k]?):aCR w' P ps a:=by
 obtain⟨h0,C,h1,h2⟩:=h;exact⟨h0,C,h1.mono e,fun i hi=>(h2 i hi).mono e⟩
theorem aCR.sub{w:World}{P Q:Nat→Prop}{ps:List Pt}{a:Option Addr}(h:aCR w P ps a)(e:∀k,P k→Q k):aCR w Q ps a:=by
 obtain⟨h0,C,h1,h2⟩:=h;exact⟨h0,C,h1.sub e,fun i hi=>(h2 i hi).sub e⟩
theorem aCR.under{w w':World}{B:Nat}{ps:List Pt}{a:Option Addr}(h:aCR w (·<B) ps a)(hb:Below B w w'):aCR w' (·<B) ps a:=h.mono fun k hk=>hb.block k hk
theorem aCR.at{w:World}{B:Nat}{ps:List Pt}{a:Option Addr}(h:aCR w (·<B) ps a)(i:Nat)(hi:i<ps.length):
  ∃(b off:Nat) (ta:Option Addr) (tc:Nat),a=some ⟨b,off,none⟩∧b<B∧w.cell? ⟨b,off+i*2,none⟩=some (.string (pth ps i).name)∧w.cell? ⟨b,off+i*2+1,none⟩=some (.slice ta (pth ps i).types.length tc)∧PRep w (·<B) (pth ps i) (.agg #[.string (pth ps i).name,.slice ta (pth ps i).types.length tc]):=by
 obtain⟨-,C,hA,hr⟩:=h
 obtain⟨b,off,rfl,hb,hc⟩:=hA (by omega)
 have hp:=hr i hi
 obtain⟨ta,tc,e,-⟩:=hp
 simp only[Value.agg.injEq,Array.mk.injEq,List.cons.injEq,and_true] at e
 refine⟨b,off,ta,tc,rfl,hb,?_,?_,?_⟩
 ·rw[←e.1];exact hc i hi 0 (by omega)
 ·rw[←e.2];exact hc i hi 1 (by omega)
 ·rw[←e.1,←e.2];exact hr i hi
end Go.Proofs.YtokmgbidmnanpaaGreatDoor
namespace Go.Proofs.YtokmgbidmnanpaaGreatDoor
open Go.RowKit
theorem aBC{w w':World}{base e sz n:Nat}{v:Value}{xs:List Value}(h:w.ownsRow base e sz v n xs)(hb:Below w.heap.size w w'):w'.ownsRow base e sz v n xs:=by
 refine⟨h.1,h.2.imp id ?_⟩
 rintro⟨g,cap,cur,rfl,hg,hh,hr⟩
 exact⟨g,cap,cur,rfl,hg,(hb.block g (Array.getElem?_eq_some_iff.1 hh).1).trans hh,hr⟩
theorem aAT{w w':World}{base e sz n:Nat}{v:Value}{xs:List Value}(h:w.ownsRow base e sz v n xs)(hb:∀k,v.ownBlock=some k→w'.heap[k]?=w.heap[k]?):w'.ownsRow base e sz v n xs:=by
 refine⟨h.1,h.2.imp id ?_⟩
 rintro⟨g,cap,cur,rfl,hg,hh,hr⟩
 exact⟨g,cap,cur,rfl,hg,(hb g rfl).trans hh,hr⟩
theorem aAR{w:World}{t:Addr}{old:Value}(h:w.cell? t=some old):t.block<w.heap.size:=by
 rcases Nat.lt_or_ge t.block w.heap.size with h1| h1
 ·exact h1
 ·simp[World.cell?,Array.getElem?_eq_none h1] at h
end Go.Proofs.YtokmgbidmnanpaaGreatDoor
namespace Go.Proofs.YtokmgbidmnanpaaGreatDoor
open Go.RowKit
def fldF(p:Pt)(nm n:ByteArray):F:=aBU (aAY p nm) n
def fldB(p:Pt)(nm n:ByteArray):Bool:=decide (0≤aAC (aAY p nm) n)
def qry:ByteArray:=⟨#[113,117,101,114,121]⟩
def aDJ(nm:ByteArray)(one:Bool)(kl:Nat)(g:F)(known:Bool):Int:=
 if known=false then 1
 else if(aAF g.of&&decide (0<kl))=true then 2
 else if(!aAF g.of&&decide (kl=0))=true then 3
 else if(one&&(aAF g.of||g.list||!(nm.toList==qry.toList)))=true then 4
 else 0
def aBI(p:Pt)(nm:ByteArray)(s:Se):Int:=aDJ nm s.one s.kids.length (fldF p nm s.name) (fldB p nm s.name&&!(fldF p nm s.name).hidden)
def chkM(p:Pt):Nat→Way→ByteArray→List Se→Nat→Option (Way× Int)
 |0,_,_,_,_=>none
 |_+1,_,_,_,0=>none
 |f+1,ah,nm,ks,n+1=>match chkM p (f+1) ah nm ks n with
  |some x=>some x
  |none=>if aBI p nm (sth ks n)≠0 then some (ah++[keyS (sth ks n)],aBI p nm (sth ks n)) else chkM p f (ah++[keyS (sth ks n)]) (fldF p nm (sth ks n).name).of (sth ks n).kids (sth ks n).kids.length
def tyS(p:Pt)(T:List ByteArray)(x:Way× Se):List ByteArray:=T.take x.1.length++[(fldF p (nth T (x.1.length- 1)) x.2.name).of]
def tyF(p:Pt)(T:List ByteArray)(xs:List (Way× Se)):List ByteArray:=xs.foldl (tyS p) T
def askF(p:Pt):List ByteArray→List (Way× Se)→List (Way× Se× ByteArray)
 |_,[]=>[]
 |T,x::xs=>(x.1,x.2,nth T (x.1.length- 1))::askF p (tyS p T x) xs
theorem aJS(p:Pt)(T:List ByteArray)(xs ys:List (Way× Se)):tyF p T (xs++ys)=tyF p (tyF p T xs) ys:=by simp[tyF,List.foldl_append]
theorem aFM(p:Pt):∀(xs:List (Way× Se)) (T:List ByteArray) (ys:List (Way× Se)),askF p T (xs++ys)=askF p T xs++askF p (tyF p T xs) ys
 |[],T,ys=>rfl
 |x::xs,T,ys=>by
  simp only[List.cons_append,askF,aFM p xs]
  rfl
theorem aTI(p:Pt)(T:List ByteArray)(xs:List (Way× Se))(x:Way× Se):askF p T (xs++[x])=askF p T xs++[(x.1,x.2,nth (tyF p T xs) (x.1.length- 1))]:=by rw[aFM];rfl
theorem aPF(p:Pt):∀(xs:List (Way× Se)) (T:List ByteArray) (y:Way× Se× ByteArray),y∈ askF p T xs→∃x∈ xs,x.1=y.1
 |[],T,y,h=>by simp[askF] at h
 |x::xs,T,y,h=>by
  simp only[askF,List.mem_cons] at h
  rcases h with rfl| h
  ·exact⟨x,by simp,rfl⟩
  ·obtain⟨z,hz,e⟩:=aPF p xs _ y h
   exact⟨z,by simp[hz],e⟩
def aB5(p:Pt)(l:List (Way× Se× ByteArray)):Option (Way× Int):=(l.find? fun y=>decide (aBI p y.2.2 y.2.1≠0)).map fun y=>(y.1,aBI p y.2.2 y.2.1)
theorem aE9(p:Pt)(l m:List (Way× Se× ByteArray)):aB5 p (l++m)=match aB5 p l with
  |some x=>some x
  |none=>aB5 p m:=by
 unfold aB5
 rw[List.find?_append]
 cases h:l.find? fun y=>decide (aBI p y.2.2 y.2.1≠0)<;>simp[h]
theorem aDN(p:Pt)(y:Way× Se× ByteArray)(l:List (Way× Se× ByteArray)):aB5 p (y::l)=if aBI p y.2.2 y.2.1≠0 then some (y.1,aBI p y.2.2 y.2.1) else aB5 p l:=by
 unfold aB5
 by_cases h:aBI p y.2.2 y.2.1=0<;>simp[List.find?_cons,h]
theorem aFP(p:Pt):∀(f:Nat) (ah:Way) (nm:ByteArray) (ks:List Se) (n:Nat) (T:List ByteArray),n≤ks.length→ah.length<T.length→nth T ah.length=nm→
  aB5 p (askF p T (aAU f ah ks n))=chkM p f ah nm ks n∧(tyF p T (aAU f ah ks n)).take (ah.length+1)=T.take (ah.length+1)∧ah.length<(tyF p T (aAU f ah ks n)).length
 |0,ah,nm,ks,n,T,hn,hl,hT=>by simp[aAU,askF,aB5,chkM,tyF,hl]
 |f+1,ah,nm,ks,0,T,hn,hl,hT=>by simp[aAU,askF,aB5,chkM,tyF,hl]
 |f+1,ah,nm,ks,n+1,T,hn,hl,hT=>by
  obtain⟨h1,h2,h3⟩:=aFP p (f+1) ah nm ks n T (by omega) hl hT
  generalize hU:tyF p T (aAU (f+1) ah ks n)=U at h2 h3
  have hUT:nth U ah.length=nm:=by
   have e:U.getD ah.length ByteArray.empty=T.getD ah.length ByteArray.empty:=by
    have e2:=congrArg (fun l=>l.getD ah.length ByteArray.empty) h2
    simpa[List.getD_eq_getElem?_getD,List.getElem?_take] using e2
   have:nth U ah.length=nth T ah.length:=e
   rw[this,hT]
  have hxl:(ah++[keyS (sth ks n)]).length=ah.length+1:=by simp
  have hnm:nth U ((ah++[keyS (sth ks n)]).length- 1)=nm:=by rw[hxl];exact hUT
  have hV:tyS p U (ah++[keyS (sth ks n)],sth ks n)=U.take (ah.length+1)++[(fldF p nm (sth ks n).name).of]:=by
   unfold tyS
   simp only
   rw[hnm,hxl]
  have hVl:(U.take (ah.length+1)++[(fldF p nm (sth ks n).name).of]).length=ah.length+2:=by simp;omega
  obtain⟨k1,k2,k3⟩:=aFP p f (ah++[keyS (sth ks n)]) (fldF p nm (sth ks n).name).of (sth ks n).kids (sth ks n).kids.length (U.take (ah.length+1)++[(fldF p nm (sth ks n).name).of]) (Nat.le_refl _) (by rw[hxl,hVl];omega) (by
   rw[hxl]
   unfold nth
   rw[List.getD_eq_getElem?_getD,List.getElem?_append_right (by rw[List.length_take];omega),List.length_take,Nat.min_eq_left (by omega)]
   simp)
  rw[hxl] at k2 k3
  have hfin:(tyF p (U.take (ah.length+1)++[(fldF p nm (sth ks n).name).of]) (aAU f (ah++[keyS (sth ks n)]) (sth ks n).kids (sth ks n).kids.length)).take (ah.length+1)=T.take (ah.length+1):=by
   have e:=congrArg (fun l=>l.take (ah.length+1)) k2
   simp only[List.take_take,Nat.min_eq_left (show ah.length+1≤ah.length+1+1 by omega)] at e
   rw[e,List.take_append_of_le_length (by simp;omega),List.take_take,Nat.min_self,h2]
  rw[aBE,aFM,hU,aJS,hU,aE9,h1,chkM]
  have hc2:tyF p U ((ah++[keyS (sth ks n)],sth ks n)::aAU f (ah++[keyS (sth ks n)]) (sth ks n).kids (sth ks n).kids.length)=tyF p (U.take (ah.length+1)++[(fldF p nm (sth ks n).name).of]) (aAU f (ah++[keyS (sth ks n)]) (sth ks n).kids (sth ks n).kids.length):=by
   unfold tyF
   rw[List.foldl_cons,hV]
  rw[hc2]
  refine⟨?_,hfin,by omega⟩
  cases hc:chkM p (f+1) ah nm ks n with
  |some x=>rfl
  |none=>
   simp only
   rw[askF,hV,aDN]
   simp only
   rw[hnm,k1]
theorem aHQ{α:Type}{pre A C:List α}{x:α}(h:pre++[x]<+:A++C):pre++[x]<+:A∨∃pre',pre=A++pre'∧pre'++[x]<+:C:=by
 obtain⟨t,ht⟩:=h
 rcases List.append_eq_append_iff.1 ht with⟨a',h1,h2⟩| ⟨c',h1,h2⟩
 ·exact Or.inl ⟨a',h1.symm⟩
 ·by_cases hc:c'=[]
  ·subst hc
   exact Or.inl ⟨[],by simpa using h1⟩
  ·right
   rw[←List.dropLast_concat_getLast hc,←List.append_assoc] at h1
   obtain⟨e1,e2⟩:=List.append_inj' h1 rfl
   refine⟨c'.dropLast,e1,t,?_⟩
   have e3:x=c'.getLast hc:=by simpa using e2
   rw[e3,List.dropLast_concat_getLast hc]
   exact h2.symm
theorem aII(p:Pt):∀(f:Nat) (ah:Way) (ks:List Se) (n:Nat) (T:List ByteArray) (pre:List (Way× Se)) (x:Way× Se),n≤ks.length→ah.length<T.length→pre++[x]<+:aAU f ah ks n→x.1.length≤(tyF p T pre).length∧1≤x.1.length
 |0,ah,ks,n,T,pre,x,hn,hl,h=>by simp[aAU] at h
 |f+1,ah,ks,0,T,pre,x,hn,hl,h=>by simp[aAU] at h
 |f+1,ah,ks,n+1,T,pre,x,hn,hl,h=>by
  obtain⟨-,h2,h3⟩:=aFP p (f+1) ah (nth T ah.length) ks n T (by omega) hl rfl
  rw[aBE] at h
  rcases aHQ h with h| ⟨pre',rfl,hB⟩
  ·exact aII p (f+1) ah ks n T pre x (by omega) hl h
  rw[aJS]
  generalize tyF p T (aAU (f+1) ah ks n)=U at h2 h3
  have h:pre'++[x]<+:[(ah++[keyS (sth ks n)],sth ks n)]++aAU f (ah++[keyS (sth ks n)]) (sth ks n).kids (sth ks n).kids.length:=hB
  rcases aHQ h with h| ⟨pre2,rfl,hC⟩
  ·have e:pre'=[]∧x=(ah++[keyS (sth ks n)],sth ks n):=by
    obtain⟨t,ht⟩:=h
    cases pre' with
    |nil=>simp at ht;exact⟨rfl,ht.1⟩
    |cons a l=>simp at ht
   obtain⟨rfl,rfl⟩:=e
   simp only[tyF,List.foldl_nil,List.length_append,List.length_singleton]
   omega
  ·have e:tyF p U ([(ah++[keyS (sth ks n)],sth ks n)]++pre2)=tyF p (tyS p U (ah++[keyS (sth ks n)],sth ks n)) pre2:=by rw[aJS];rfl
   rw[e]
   refine aII p f (ah++[keyS (sth ks n)]) _ _ _ pre2 x (Nat.le_refl _) ?_ hC
   unfold tyS
   simp
   omega
end Go.Proofs.YtokmgbidmnanpaaGreatDoor
namespace Go.Proofs.YtokmgbidmnanpaaGreatDoor
open Go.RowKit
def tmT(l:List ByteArray)(t:ByteArray):Bool:=(l.map ByteArray.toList).contains t.toList
def addT(l:List ByteArray)(t:ByteArray):List ByteArray:=if tmT l t=true then l else l++[t]
def aC1(l ts:List ByteArray):List ByteArray:=ts.foldl addT l
def fldT(nm n:ByteArray):ByteArray:=nm++⟨#[46]⟩++n
def ofF(nm:ByteArray)(g:F):List ByteArray:=fldT nm g.name::g.needs.map (fldT nm)
def aAD(p:Pt):Nat→ByteArray→List Se→Nat→List ByteArray→List ByteArray
 |0,_,_,_,out=>out
 |_+1,_,_,0,out=>out
 |f+1,nm,ks,n+1,out=>aAD p f (fldF p nm (sth ks n).name).of (sth ks n).kids (sth ks n).kids.length (aC1 (aAD p (f+1) nm ks n out) (ofF nm (fldF p nm (sth ks n).name)))
def aPS(p:Pt)(out:List ByteArray)(y:Way× Se× ByteArray):List ByteArray:=aC1 out (fldT y.2.2 y.2.1.name::(fldF p y.2.2 y.2.1.name).needs.map (fldT y.2.2))
def aBG(p:Pt)(out:List ByteArray)(l:List (Way× Se× ByteArray)):List ByteArray:=l.foldl (aPS p) out
theorem aIP(p:Pt)(out:List ByteArray)(l m:List (Way× Se× ByteArray)):aBG p out (l++m)=aBG p (aBG p out l) m:=by simp[aBG,List.foldl_append]
theorem aUQ{a b:ByteArray}(h:a.toList=b.toList):a=b:=by
 rw[ByteArray.toList_eq,ByteArray.toList_eq] at h
 cases a;cases b
 simp only at h
 rw[Array.toList_inj.1 h]
theorem aQ6{p:Pt}{nm:ByteArray}{s:Se}(h:aBI p nm s=0):(fldF p nm s.name).name=s.name:=by
 have hb:fldB p nm s.name=true:=by
  unfold aBI aDJ at h
  cases hb:fldB p nm s.name
  ·rw[hb] at h;simp at h
  ·rfl
 unfold fldB at hb
 have hb:=of_decide_eq_true hb
 unfold fldF aBU
 rw[if_pos hb]
 unfold aAC at hb ⊢
 rcases aAB (fun i=>(fth (aAY p nm).fields i).name.toList==s.name.toList) (aAY p nm).fields.length with⟨e,-⟩| ⟨k,e,hk,hpk,-⟩
 ·rw[e] at hb;omega
 ·rw[e]
  simp only[Int.toNat_natCast]
  exact aUQ (by simpa using hpk)
theorem aGA(p:Pt):∀(f:Nat) (ah:Way) (nm:ByteArray) (ks:List Se) (n:Nat) (T out:List ByteArray),n≤ks.length→ah.length<T.length→nth T ah.length=nm→aB5 p (askF p T (aAU f ah ks n))=none→
  aBG p out (askF p T (aAU f ah ks n))=aAD p f nm ks n out
 |0,ah,nm,ks,n,T,out,hn,hl,hT,hb=>by simp[aAU,askF,aBG,aAD]
 |f+1,ah,nm,ks,0,T,out,hn,hl,hT,hb=>by simp[aAU,askF,aBG,aAD]
 |f+1,ah,nm,ks,n+1,T,out,hn,hl,hT,hb=>by
  obtain⟨-,h2,h3⟩:=aFP p (f+1) ah nm ks n T (by omega) hl hT
  rw[aBE,aFM,aE9] at hb
  have hb1:aB5 p (askF p T (aAU (f+1) ah ks n))=none:=by
   cases h:aB5 p (askF p T (aAU (f+1) ah ks n)) with
   |none=>rfl
   |some x=>rw[h] at hb;simp at hb
  rw[hb1] at hb
  simp only at hb
  have g:=aGA p (f+1) ah nm ks n T out (by omega) hl hT hb1
  rw[aBE,aFM,aIP,g]
  generalize tyF p T (aAU (f+1) ah ks n)=U at h2 h3 hb ⊢
  have hUT:nth U ah.length=nm:=by
   have e:U.getD ah.length ByteArray.empty=T.getD ah.length ByteArray.empty:=by
    have e2:=congrArg (fun l=>l.getD ah.length ByteArray.empty) h2
    simpa[List.getD_eq_getElem?_getD,List.getElem?_take] using e2
   have:nth U ah.length=nth T ah.length:=e
   rw[this,hT]
  have hxl:(ah++[keyS (sth ks n)]).length=ah.length+1:=by simp
  have hnm:nth U ((ah++[keyS (sth ks n)]).length- 1)=nm:=by rw[hxl];exact hUT
  have hV:tyS p U (ah++[keyS (sth ks n)],sth ks n)=U.take (ah.length+1)++[(fldF p nm (sth ks n).name).of]:=by
   unfold tyS
   simp only
   rw[hnm,hxl]
  have hVl:(U.take (ah.length+1)++[(fldF p nm (sth ks n).name).of]).length=ah.length+2:=by simp;omega
  rw[askF,hV] at hb ⊢
  simp only at hb ⊢
  rw[hnm] at hb ⊢
  rw[aDN] at hb
  have hf0:aBI p nm (sth ks n)=0:=by
   by_cases h:aBI p nm (sth ks n)=0
   ·exact h
   ·simp[h] at hb
  simp only[hf0,ne_eq,not_true_eq_false,if_false] at hb
  have hst:∀l,aBG p (aAD p (f+1) nm ks n out) ((ah++[keyS (sth ks n)],sth ks n,nm)::l)=aBG p (aC1 (aAD p (f+1) nm ks n out) (ofF nm (fldF p nm (sth ks n).name))) l:=fun l=>by
   unfold aBG
   rw[List.foldl_cons]
   congr 1
   unfold aPS ofF
   simp only
   rw[aQ6 hf0]
  rw[hst,aAD]
  exact aGA p f (ah++[keyS (sth ks n)]) (fldF p nm (sth ks n).name).of (sth ks n).kids (sth ks n).kids.length (U.take (ah.length+1)++[(fldF p nm (sth ks n).name).of]) _ (Nat.le_refl _) (by rw[hxl,hVl];omega) (by
   rw[hxl]
   unfold nth
   rw[List.getD_eq_getElem?_getD,List.getElem?_append_right (by rw[List.length_take];omega),List.length_take,Nat.min_eq_left (by omega)]
   simp) hb
end Go.Proofs.YtokmgbidmnanpaaGreatDoor
