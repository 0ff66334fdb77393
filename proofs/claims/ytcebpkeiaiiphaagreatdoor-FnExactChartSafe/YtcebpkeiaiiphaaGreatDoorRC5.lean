import Derived.Test.YtcebpkeiaiiphaaGreatDoorRC4
import Derived.Shelf.Strings.OnBuilder
import Derived.Shelf.Strings.BuilderK
set_option linter.unusedSimpArgs false
set_option linter.unusedVariables false
namespace Go.Proofs.YtcebpkeiaiiphaaGreatDoor
open Go.RowKit
set_option maxHeartbeats 400000 in
theorem aFR(s:ByteArray)(w:World):
  Calls Tryz.prog 59 #[.string s] w fun e w'=>e=.returned (.bool (aAV s))∧w=w':=by
 cases h1:(s.toList==[105,110,116])<;>cases h2:(s.toList==[116,101,120,116])<;>
 ·go_enter Tryz.func59,Tryz.ntmps59
  go_wp2_with fail
  go_ret
  exact⟨aA4 (by simp only[aAV,isT,h1,h2];rfl),rfl⟩
def aIB(s:ByteArray):Bool:=isT s [112,97,114,116]||isT s [116,121,112,101]||isT s [107,101,121]||isT s [102,97,114]||isT s [104,105,100,100,101,110]||isT s [115,104,97,114,101,100]||isT s [110,101,101,100,115]||aAV s
set_option maxHeartbeats 1600000 in
theorem aPT(s:ByteArray)(w:World):
  Calls Tryz.prog 130 #[.string s] w fun e w'=>e=.returned (.bool (aIB s))∧w=w':=by
 cases k0:(s.toList==[112,97,114,116]);case true=>
  go_enter Tryz.func130,Tryz.ntmps130
  go_wp2_with fail
  go_ret
  exact⟨aA4 (by simp[aIB,isT,k0]),rfl⟩
 cases k1:(s.toList==[116,121,112,101]);case true=>
  go_enter Tryz.func130,Tryz.ntmps130
  go_wp2_with fail
  go_ret
  exact⟨aA4 (by simp[aIB,isT,k1]),rfl⟩
 cases k2:(s.toList==[107,101,121]);case true=>
  go_enter Tryz.func130,Tryz.ntmps130
  go_wp2_with fail
  go_ret
  exact⟨aA4 (by simp[aIB,isT,k2]),rfl⟩
 cases k3:(s.toList==[102,97,114]);case true=>
  go_enter Tryz.func130,Tryz.ntmps130
  go_wp2_with fail
  go_ret
  exact⟨aA4 (by simp[aIB,isT,k3]),rfl⟩
 cases k4:(s.toList==[104,105,100,100,101,110]);case true=>
  go_enter Tryz.func130,Tryz.ntmps130
  go_wp2_with fail
  go_ret
  exact⟨aA4 (by simp[aIB,isT,k4]),rfl⟩
 cases k5:(s.toList==[115,104,97,114,101,100]);case true=>
  go_enter Tryz.func130,Tryz.ntmps130
  go_wp2_with fail
  go_ret
  exact⟨aA4 (by simp[aIB,isT,k5]),rfl⟩
 cases k6:(s.toList==[110,101,101,100,115]);case true=>
  go_enter Tryz.func130,Tryz.ntmps130
  go_wp2_with fail
  go_ret
  exact⟨aA4 (by simp[aIB,isT,k6]),rfl⟩
 go_enter Tryz.func130,Tryz.ntmps130
 go_wp2_with (go_at_call 59;refine(aFR _ _).mono ?_;rintro e w' ⟨rfl,rfl⟩)
 go_ret
 exact⟨aA4 (by simp[aIB,isT,k0,k1,k2,k3,k4,k5,k6]),rfl⟩
theorem aSJ(s:ByteArray):aBB s=(decide (s.size<=8)&&aF1 s&&!(aAL s 0==95)&&!aIB s):=by
 simp only[aBB,aIB];cases aF1 s<;>cases decide (s.size<=8)<;>cases (aAL s 0==95)<;>cases aAV s<;>simp[Bool.and_assoc]
set_option maxHeartbeats 1600000 in
theorem aDN(s:ByteArray)(w:World)(hs:s.size<=maxLen):
  Calls Tryz.prog 94 #[.string s] w fun e w'=>e=.returned (.bool (aBB s))∧w=w':=by
 rw[aSJ];have hcw:=fun w=>aQG s w hs;have hck:=fun w=>aPT s w;by_cases h8:s.size<=8
 case neg=>
  have h8':¬(s.size:Int)<=8:=by omega
  have h8d:decide ((s.size:Int)<=8)=false:=by simpa using h8'
  go_enter Tryz.func94,Tryz.ntmps94
  go_wp2_with fail
  go_ret
  exact⟨aA4 (by simp[h8]),rfl⟩
 have h8':(s.size:Int)<=8:=by omega
 have H8:Hid (decide (s.size<=8)=true):=by show _=_;simpa using h8
 cases hw:aF1 s
 ·rw[hw] at hcw;go_enter Tryz.func94,Tryz.ntmps94
  go_wp2_with (go_at_call 129;refine(hcw _).mono ?_;rintro e w' ⟨rfl,rfl⟩)
  go_ret
  exact⟨aA4 (by simp),rfl⟩
 rw[hw] at hcw;have h1:0<s.size:=by
  rw[aF1] at hw;simp only[Bool.and_eq_true,decide_eq_true_eq] at hw;omega
 have hb0:=aEK s 0 h1;cases hu:(aAL s 0==95);case true=>
  have hu':(aAL s 0 !=95)=false:=by simp only[bne,hu];rfl
  go_enter Tryz.func94,Tryz.ntmps94
  go_wp2_with (go_at_call 129;refine(hcw _).mono ?_;rintro e w' ⟨rfl,rfl⟩)
  go_ret
  exact⟨aA4 (by simp),rfl⟩
 have hu':(aAL s 0 !=95)=true:=by simp only[bne,hu];rfl
 cases hk:aIB s;all_goals
  rw[hk] at hck;go_enter Tryz.func94,Tryz.ntmps94
  go_wp2_with (first| (go_at_call 129;refine(hcw _).mono ?_;rintro e w' ⟨rfl,rfl⟩)| (go_at_call 130;refine(hck _).mono ?_;rintro e w' ⟨rfl,rfl⟩))
  go_ret
  exact⟨aA4 (by simp[H8.out]),rfl⟩
theorem FRep.parts{w:World}{P:Nat->Prop}{f:F}{c0 c1 c2 c3 c4 c5 c6 c7:Value}(h:FRep w P f (.agg #[c0,c1,c2,c3,c4,c5,c6,c7])):
  c0=.string f.name∧c1=.string f.of∧c2=.bool f.list∧c3=.bool f.must∧c4=.bool f.far∧c5=.bool f.hidden∧c6=.bool f.shared∧∃na nc,c7=.slice na f.needs.length nc∧Strs w P f.needs na∧f.needs.length<=nc∧f.name.size<=maxLen∧f.of.size<=maxLen:=by
 obtain⟨na,nc,hv,h2,h3,h4,h5,-⟩:=h;simp only[Value.agg.injEq,Array.mk.injEq,List.cons.injEq,and_true] at hv;obtain⟨e0,e1,e2,e3,e4,e5,e6,e7⟩:=hv;exact⟨e0,e1,e2,e3,e4,e5,e6,na,nc,e7,h2,h3,h4,h5⟩
def aAB(t:T)(s:ByteArray):Int:=aA9 (fun i=>(fth t.fields i).name.toList==s.toList) t.fields.length
def aFD(f:F):Bool:=isT f.of [105,110,116]&&!f.list&&f.must&&!f.far&&!f.hidden&&(f.needs.length:Int)==0
def keyB(t:T):Bool:=t.key.toList.isEmpty||(decide (0<=aAB t t.key)&&aFD (fth t.fields (aAB t t.key).toNat))
set_option maxHeartbeats 1600000 in
theorem aS5(t:T)(w:World)(B:Nat)(v:Value)(hR:TRep w (·<B) t v)(hB:B<=w.heap.size):
  Calls Tryz.prog 102 #[v] w fun e w'=>e=.returned (.bool (keyB t))∧Below w.heap.size w w':=by
 have hR':=hR;obtain⟨name,key,fields⟩:=t;obtain⟨fa,fc,rfl,hK,hnc,hn,ho⟩:=hR;simp only at hK hnc hn ho;cases hke:key.toList.isEmpty;case true=>
  go_enter Tryz.func102,Tryz.ntmps102
  go_wp2_with fail
  go_ret
  exact⟨aA4 (by simp[keyB,hke]),aA2 _ _⟩
 have hcall:∀o,Calls Tryz.prog 63 #[.agg #[.string name,.string key,.slice fa fields.length fc],.string key] (w.alloc o) fun e w'=>e=.returned (.int .i64 (aAB ⟨name,key,fields⟩ key))∧Below (w.alloc o).heap.size (w.alloc o) w':=fun o=>
  aD3 ⟨name,key,fields⟩ (w.alloc o) B _ key (hR'.under ((aA2 w o).mono hB)) (by simp;omega)
 have hkb:Hid (keyB ⟨name,key,fields⟩=(decide (0<=aAB ⟨name,key,fields⟩ key)&&aFD (fth fields (aAB ⟨name,key,fields⟩ key).toNat))):=by
  show _=_;simp[keyB,hke]
 rcases aA8 (fun i=>(fth fields i).name.toList==key.toList) fields.length with⟨hix,-⟩| ⟨k,hix,hlt,-,-⟩
 ·have hix':aAB ⟨name,key,fields⟩ key=-1:=hix;rw[hix'] at hcall hkb;go_enter Tryz.func102,Tryz.ntmps102
  go_wp2_with (go_at_call 63;refine(hcall _).mono ?_;rintro e w1 ⟨rfl,hb1⟩)
  go_ret
  exact⟨aA4 (by rw[hkb.out];simp),(aA2 w _).trans (hb1.mono (by simp))⟩
 ·have hix':aAB ⟨name,key,fields⟩ key=(k:Int):=hix;rw[hix'] at hcall hkb;have h3:=hK.1;obtain⟨-,C,hA,hr⟩:=hK;obtain⟨b,off,rfl,hbB,hc⟩:=hA (by omega)
  have hck:=hc k hlt;obtain⟨e0,e1,e2,e3,e4,e5,e6,na,nc,e7,-⟩:=(hr k hlt).parts;have E0:=e0;clear e0;clear hc hr hA;have hkf:Hid (keyB ⟨name,key,fields⟩=aFD (fth fields k)):=by show _=_;rw[hkb.out];simp
  clear hkb;generalize fth fields k=f at*;obtain⟨fn,of,l,m,fr,hi,sh,needs⟩:=f;simp only at E0 e1 e2 e3 e4 e5 e6 e7;have hcells:∀w1,Below w.heap.size w w1->(w1.cell? ⟨b,off+k*8,none⟩=some (.string fn)∧w1.cell? ⟨b,off+k*8+1,none⟩=some (.string of)∧w1.cell? ⟨b,off+k*8+2,none⟩=some (.bool l)∧w1.cell? ⟨b,off+k*8+3,none⟩=some (.bool m)∧w1.cell? ⟨b,off+k*8+4,none⟩=some (.bool fr)∧w1.cell? ⟨b,off+k*8+5,none⟩=some (.bool hi)∧w1.cell? ⟨b,off+k*8+6,none⟩=some (.bool sh)∧w1.cell? ⟨b,off+k*8+7,none⟩=some (.slice na needs.length nc)):=fun w1 hb=>by
   have hx:∀j,j<8->w1.cell? ⟨b,off+k*8+j,none⟩=some (C k j):=fun j hj=>(hb.cell (p:=⟨b,off+k*8+j,none⟩) (by show b<_;omega)).trans (hck j hj)
   have x0:=hx 0 (by omega);have x1:=hx 1 (by omega);have x2:=hx 2 (by omega);have x3:=hx 3 (by omega)
   have x4:=hx 4 (by omega);have x5:=hx 5 (by omega);have x6:=hx 6 (by omega);have x7:=hx 7 (by omega)
   rw[e1] at x1;rw[e2] at x2;rw[e3] at x3;rw[e4] at x4;rw[e5] at x5;rw[e6] at x6;rw[e7] at x7;exact⟨by rw[E0] at x0;exact x0,x1,x2,x3,x4,x5,x6,x7⟩
  have hki:(k:Int)<(fields.length:Int):=by omega
  clear hck e1 e2 e3 e4 e5 e6 e7 E0;cases hof:(of.toList==[105,110,116]);case false=>
   go_enter Tryz.func102,Tryz.ntmps102
   go_wp2_with (
    go_at_call 63
    refine(hcall _).mono ?_;rintro e w1 ⟨rfl,hb1⟩;have hbw:Below w.heap.size w w1:=(aA2 w _).trans (hb1.mono (by simp))
    obtain⟨x0,x1,x2,x3,x4,x5,x6,x7⟩:=hcells w1 hbw;have hx2:w1.cell? ⟨w.heap.size,2,none⟩=some (.slice (some ⟨b,off,none⟩) fields.length fc):=by rw[hb1.cell (by simp)];simp)
   go_ret
   exact⟨aA4 (by rw[hkf.out];simp[aFD,isT,hof]),hbw.trans ((aA2 w1 _).mono hbw.size)⟩
  cases l;case true=>
   go_enter Tryz.func102,Tryz.ntmps102
   go_wp2_with (
    go_at_call 63
    refine(hcall _).mono ?_;rintro e w1 ⟨rfl,hb1⟩;have hbw:Below w.heap.size w w1:=(aA2 w _).trans (hb1.mono (by simp))
    obtain⟨x0,x1,x2,x3,x4,x5,x6,x7⟩:=hcells w1 hbw;have hx2:w1.cell? ⟨w.heap.size,2,none⟩=some (.slice (some ⟨b,off,none⟩) fields.length fc):=by rw[hb1.cell (by simp)];simp)
   go_ret
   exact⟨aA4 (by rw[hkf.out];simp[aFD,isT,hof]),hbw.trans ((aA2 w1 _).mono hbw.size)⟩
  cases m;case false=>
   go_enter Tryz.func102,Tryz.ntmps102
   go_wp2_with (
    go_at_call 63
    refine(hcall _).mono ?_;rintro e w1 ⟨rfl,hb1⟩;have hbw:Below w.heap.size w w1:=(aA2 w _).trans (hb1.mono (by simp))
    obtain⟨x0,x1,x2,x3,x4,x5,x6,x7⟩:=hcells w1 hbw;have hx2:w1.cell? ⟨w.heap.size,2,none⟩=some (.slice (some ⟨b,off,none⟩) fields.length fc):=by rw[hb1.cell (by simp)];simp)
   go_ret
   exact⟨aA4 (by rw[hkf.out];simp[aFD,isT,hof]),hbw.trans ((aA2 w1 _).mono hbw.size)⟩
  cases fr;case true=>
   go_enter Tryz.func102,Tryz.ntmps102
   go_wp2_with (
    go_at_call 63
    refine(hcall _).mono ?_;rintro e w1 ⟨rfl,hb1⟩;have hbw:Below w.heap.size w w1:=(aA2 w _).trans (hb1.mono (by simp))
    obtain⟨x0,x1,x2,x3,x4,x5,x6,x7⟩:=hcells w1 hbw;have hx2:w1.cell? ⟨w.heap.size,2,none⟩=some (.slice (some ⟨b,off,none⟩) fields.length fc):=by rw[hb1.cell (by simp)];simp)
   go_ret
   exact⟨aA4 (by rw[hkf.out];simp[aFD,isT,hof]),hbw.trans ((aA2 w1 _).mono hbw.size)⟩
  cases hi;case true=>
   go_enter Tryz.func102,Tryz.ntmps102
   go_wp2_with (
    go_at_call 63
    refine(hcall _).mono ?_;rintro e w1 ⟨rfl,hb1⟩;have hbw:Below w.heap.size w w1:=(aA2 w _).trans (hb1.mono (by simp))
    obtain⟨x0,x1,x2,x3,x4,x5,x6,x7⟩:=hcells w1 hbw;have hx2:w1.cell? ⟨w.heap.size,2,none⟩=some (.slice (some ⟨b,off,none⟩) fields.length fc):=by rw[hb1.cell (by simp)];simp)
   go_ret
   exact⟨aA4 (by rw[hkf.out];simp[aFD,isT,hof]),hbw.trans ((aA2 w1 _).mono hbw.size)⟩
  go_enter Tryz.func102,Tryz.ntmps102
  go_wp2_with (
   go_at_call 63
   refine(hcall _).mono ?_;rintro e w1 ⟨rfl,hb1⟩;have hbw:Below w.heap.size w w1:=(aA2 w _).trans (hb1.mono (by simp))
   obtain⟨x0,x1,x2,x3,x4,x5,x6,x7⟩:=hcells w1 hbw;have hx2:w1.cell? ⟨w.heap.size,2,none⟩=some (.slice (some ⟨b,off,none⟩) fields.length fc):=by rw[hb1.cell (by simp)];simp)
  go_ret
  exact⟨aA4 (by rw[hkf.out];simp[aFD,isT,hof]),hbw.trans ((aA2 w1 _).mono hbw.size)⟩
theorem aIQ{q:Nat->Bool}{k:Nat}(h:∀j,j<k->q j=false)(hk:q k=false):∀j,j<k+1->q j=false:=fun j hj=>by
 by_cases e:j=k
 ·subst e;exact hk
 ·exact h j (by omega)
def aAR(p:Pt)(s:ByteArray):Int:=aA9 (fun i=>(tth p.types i).name.toList==s.toList) p.types.length
def aA5(p:Pt)(s:ByteArray):T:=if 0<=aAR p s then tth p.types (aAR p s).toNat else T.zero
theorem aBJ.nil(w:World)(P:Nat->Prop)(a:Option Addr):aBJ w P [] a:=⟨by simp,fun _ _=>undef,fun h=>by simp at h,fun i hi=>by simp at hi⟩
theorem TRep.zero(w:World)(P:Nat->Prop):TRep w P T.zero (.agg #[.string ByteArray.empty,.string ByteArray.empty,.slice none 0 0]):=
 ⟨none,0,rfl,aBJ.nil _ _ _,Nat.le_refl _,by simp[T.zero,maxLen],by simp[T.zero,maxLen]⟩
theorem TRep.parts{w:World}{P:Nat->Prop}{t:T}{c0 c1 c2:Value}(h:TRep w P t (.agg #[c0,c1,c2])):
  ∃(fa:Option Addr) (fc:Nat),c0=.string t.name∧c1=.string t.key∧c2=.slice fa t.fields.length fc∧aBJ w P t.fields fa∧t.fields.length<=fc∧t.name.size<=maxLen∧t.key.size<=maxLen:=by
 obtain⟨fa,fc,hv,h2,h3,h4,h5⟩:=h;simp only[Value.agg.injEq,Array.mk.injEq,List.cons.injEq,and_true] at hv;exact⟨fa,fc,hv.1,hv.2.1,hv.2.2,h2,h3,h4,h5⟩
theorem aBC{w:World}(cs:Array Value)(T:TypeId)(i:Nat)(hi:i<cs.size):(w.alloc (.cells cs T)).cell? ⟨w.heap.size,i,none⟩=some cs[i]:=by
 rw[cell_of_row (w.alloc (.cells cs T)) w.heap.size i cs T (0,0) (heap_alloc_new w _)];simp[hi]
theorem aA1{W:World}{b:Nat}{cs:Array Value}{T:TypeId}(h:W.heap[b]?=some (.cells cs T (0,0)))(i:Nat)(hi:i<cs.size):W.cell? ⟨b,i,none⟩=some cs[i]∧W.frozen? ⟨b,i,none⟩=false:=by
 refine⟨?_,frozen_of_row W b i cs T h⟩;rw[cell_of_row W b i cs T (0,0) h];simp[hi]
set_option maxHeartbeats 800000 in
theorem aFF(p:Pt)(w:World)(B:Nat)(v:Value)(s:ByteArray)(hR:PRep w (·<B) p v)(hB:B<=w.heap.size):
  Calls Tryz.prog 55 #[v,.string s] w fun e w'=>∃(nm ky:ByteArray) (fa:Option Addr) (fl fc:Nat),e=.returned (.tuple #[.agg #[.string nm,.string ky,.slice fa fl fc],.bool (decide (0<=aAR p s))])∧Below w.heap.size w w'∧
   TRep w' (·<B) (aA5 p s) (.agg #[.string nm,.string ky,.slice fa fl fc]):=by
 obtain⟨name,types⟩:=p;obtain⟨ta,tc,rfl,hK,hnc,hn⟩:=hR;simp only at hK hnc hn;have h3:=hK.1;obtain⟨-,C,hA,hr⟩:=hK;go_enter Tryz.func55,Tryz.ntmps55
 go_wp2_with fail
 go_loopw [11] (fun i wr=>∃k:Nat,k<=types.length∧i=.int .i64 k∧Below (w.heap.size+1+1) ((w.alloc (.cells #[.string name,.slice ta types.length tc] 46)).alloc (.cells #[.string ByteArray.empty,.string ByteArray.empty,.slice none 0 0] 96)) wr∧∀j,j<k->((tth types j).name.toList==s.toList)=false) (fun i _=>types.length- (intOf i).toNat)
 case atStart=>exact⟨0,Nat.zero_le _,rfl,Below.refl _ _,fun j hj=>by omega⟩
 case round=>
  obtain⟨k,hk,rfl,hbel,hp⟩:=hrel;have HP:Hid (∀j,j<k->((tth types j).name.toList==s.toList)=false):=hp;clear hp;have hz:=hbel.size;simp at hz;have hbw:Below w.heap.size w wr:=(aA6 w _ _).trans (hbel.mono (by omega))
  have hrow:wr.heap[w.heap.size+1]?=some (.cells #[.string ByteArray.empty,.string ByteArray.empty,.slice none 0 0] 96 (0,0)):=by
   rw[hbel.block _ (by omega)]
   have:=heap_alloc_new (w.alloc (.cells #[.string name,.slice ta types.length tc] 46)) (.cells #[.string ByteArray.empty,.string ByteArray.empty,.slice none 0 0] 96);simpa using this
  obtain⟨r0,f0⟩:=aA1 hrow 0 (by simp)
  obtain⟨r1,f1⟩:=aA1 hrow 1 (by simp)
  obtain⟨r2,f2⟩:=aA1 hrow 2 (by simp)
  simp at r0 r1 r2;by_cases hlt:k<types.length
  ·obtain⟨b,off,rfl,hbB,hc⟩:=hA (by omega)
   have hck:∀j,j<3->wr.cell? ⟨b,off+k*3+j,none⟩=some (C k j):=fun j hj=>(hbw.cell (p:=⟨b,off+k*3+j,none⟩) (by show b<_;omega)).trans (hc k hlt j hj)
   have hrk:=hr k hlt;have hkt:=hrk;obtain⟨fa,fc,e0,e1,e2,hfs,hfc,hs1,hs2⟩:=hrk.parts;have c0:wr.cell? ⟨b,off+k*3,none⟩=some (C k 0):=hck 0 (by omega)
   have c1:=hck 1 (by omega)
   have c2:=hck 2 (by omega)
   rw[e0] at c0 hkt;rw[e1] at c1 hkt;rw[e2] at c2 hkt;clear hck hc hr hA e0 e1 e2;cases he:((tth types k).name.toList==s.toList)
   ·go_wp2_with fail
    go_roundw
    case rel=>exact⟨k+1,by omega,by go_num,hbel.alloc (by omega) _,aIQ HP.out he⟩
    case measure=>simp[intOf];omega
   ·have hix:aAR ⟨name,types⟩ s=(k:Int):=aAX HP.out he hlt;have hne1:w.heap.size+1≠wr.heap.size:=by omega
    have hne2:wr.heap.size≠w.heap.size+1:=by omega
    have HIX:Hid (aAR ⟨name,types⟩ s=(k:Int)):=hix;clear hix;have A0:∀o,(wr.alloc o).cell? ⟨w.heap.size+1,0,none⟩=some (.string ByteArray.empty):=fun o=>((aA2 wr o).cell (p:=⟨w.heap.size+1,0,none⟩) (by show w.heap.size+1<_;omega)).trans r0
    have A1:∀o,(wr.alloc o).cell? ⟨w.heap.size+1,1,none⟩=some (.string ByteArray.empty):=fun o=>((aA2 wr o).cell (p:=⟨w.heap.size+1,1,none⟩) (by show w.heap.size+1<_;omega)).trans r1
    have A2:∀o,(wr.alloc o).cell? ⟨w.heap.size+1,2,none⟩=some (.slice none 0 0):=fun o=>((aA2 wr o).cell (p:=⟨w.heap.size+1,2,none⟩) (by show w.heap.size+1<_;omega)).trans r2
    have AF:∀o i,(wr.alloc o).frozen? ⟨w.heap.size+1,i,none⟩=false:=fun o i=>((aA2 wr o).frozen (p:=⟨w.heap.size+1,i,none⟩) (by show w.heap.size+1<_;omega)).trans (frozen_of_row wr _ i _ _ hrow)
    go_wp2_with fail
    have hbf:Below w.heap.size w ((((wr.alloc (.cells #[.string (tth types k).name,.string (tth types k).key,.slice fa (tth types k).fields.length fc] 96)).setCell ⟨w.heap.size+1,0,none⟩ (.string (tth types k).name)).setCell ⟨w.heap.size+1,1,none⟩ (.string (tth types k).key)).setCell ⟨w.heap.size+1,2,none⟩ (.slice fa (tth types k).fields.length fc)):=
     (((hbw.alloc (by omega) _).setCell (by show w.heap.size<=w.heap.size+1;omega) _).setCell (by show w.heap.size<=w.heap.size+1;omega) _).setCell (by show w.heap.size<=w.heap.size+1;omega) _
    refine bodyPost_ret (v:=.tuple #[.agg #[.string (tth types k).name,.string (tth types k).key,.slice fa (tth types k).fields.length fc],.bool true]) ?res rfl ⟨(tth types k).name,(tth types k).key,fa,(tth types k).fields.length,fc,by rw[HIX.out];simp,hbf,?_⟩
    case res=>
     clear hbf hkt hfs hbw hbel HP;simp[results,Tryz.results55,go_sem,A0,A1,A2,AF]
    rw[aA5,if_pos (by rw[HIX.out];omega),HIX.out]
    exact hkt.under (hbf.mono hB)
  ·have hix:aAR ⟨name,types⟩ s=-1:=aB3 ((show k=types.length by omega)▸HP.out)
   have HIX:Hid (aAR ⟨name,types⟩ s=-1):=hix;clear hix;go_wp2_with fail
   refine bodyPost_ret (v:=.tuple #[.agg #[.string ByteArray.empty,.string ByteArray.empty,.slice none 0 0],.bool false]) ?res rfl ⟨ByteArray.empty,ByteArray.empty,none,0,0,by rw[HIX.out];simp,((hbw.setCell (by show w.heap.size<=w.heap.size+1;omega) _).setCell (by show w.heap.size<=w.heap.size+1;omega) _).setCell (by show w.heap.size<=w.heap.size+1;omega) _,?_⟩
   case res=>
    clear hbw hbel HP hA hr;simp[results,Tryz.results55,go_sem,r0,r1,r2];rfl
   rw[aA5,if_neg (by rw[HIX.out];omega)]
   exact TRep.zero _ _
def aAT(t:T)(s:ByteArray):F:=if 0<=aAB t s then fth t.fields (aAB t s).toNat else F.zero
theorem FRep.zero(w:World)(P:Nat->Prop):FRep w P F.zero (.agg #[.string ByteArray.empty,.string ByteArray.empty,.bool false,.bool false,.bool false,.bool false,.bool false,.slice none 0 0]):=
 ⟨none,0,rfl,⟨fun h=>absurd rfl h,fun i=>by simp[F.zero,nth,maxLen],by simp[F.zero,maxLen]⟩,Nat.le_refl _,by simp[F.zero,maxLen],by simp[F.zero,maxLen],by simp[F.zero]⟩
set_option maxHeartbeats 1600000 in
theorem aCP(t:T)(w:World)(B:Nat)(v:Value)(s:ByteArray)(hR:TRep w (·<B) t v)(hB:B<=w.heap.size):
  Calls Tryz.prog 98 #[v,.string s] w fun e w'=>∃(nm of:ByteArray) (l m fr hi sh:Bool) (na:Option Addr) (nl nc:Nat),e=.returned (.tuple #[.agg #[.string nm,.string of,.bool l,.bool m,.bool fr,.bool hi,.bool sh,.slice na nl nc],.bool (decide (0<=aAB t s))])∧Below w.heap.size w w'∧
   FRep w' (·<B) (aAT t s) (.agg #[.string nm,.string of,.bool l,.bool m,.bool fr,.bool hi,.bool sh,.slice na nl nc]):=by
 obtain⟨name,key,fields⟩:=t;obtain⟨ta,tc,rfl,hK,hnc,hn,hn2⟩:=hR;simp only at hK hnc hn hn2;have h3:=hK.1;obtain⟨-,C,hA,hr⟩:=hK;go_enter Tryz.func98,Tryz.ntmps98
 go_wp2_with fail
 go_loopw [11] (fun i wr=>∃k:Nat,k<=fields.length∧i=.int .i64 k∧Below (w.heap.size+1+1) ((w.alloc (.cells #[.string name,.string key,.slice ta fields.length tc] 96)).alloc (.cells #[.string ByteArray.empty,.string ByteArray.empty,.bool false,.bool false,.bool false,.bool false,.bool false,.slice none 0 0] 80)) wr∧∀j,j<k->((fth fields j).name.toList==s.toList)=false) (fun i _=>fields.length- (intOf i).toNat)
 case atStart=>exact⟨0,Nat.zero_le _,rfl,Below.refl _ _,fun j hj=>by omega⟩
 case round=>
  obtain⟨k,hk,rfl,hbel,hp⟩:=hrel;have HP:Hid (∀j,j<k->((fth fields j).name.toList==s.toList)=false):=hp;clear hp;have hz:=hbel.size;simp at hz;have hbw:Below w.heap.size w wr:=(aA6 w _ _).trans (hbel.mono (by omega))
  have hrow:wr.heap[w.heap.size+1]?=some (.cells #[.string ByteArray.empty,.string ByteArray.empty,.bool false,.bool false,.bool false,.bool false,.bool false,.slice none 0 0] 80 (0,0)):=by
   rw[hbel.block _ (by omega)]
   have:=heap_alloc_new (w.alloc (.cells #[.string name,.string key,.slice ta fields.length tc] 96)) (.cells #[.string ByteArray.empty,.string ByteArray.empty,.bool false,.bool false,.bool false,.bool false,.bool false,.slice none 0 0] 80);simpa using this
  have r0:wr.cell? ⟨w.heap.size+1,0,none⟩=some (.string ByteArray.empty):=(aA1 hrow 0 (by simp)).1
  have r1:wr.cell? ⟨w.heap.size+1,1,none⟩=some (.string ByteArray.empty):=(aA1 hrow 1 (by simp)).1
  have r2:wr.cell? ⟨w.heap.size+1,2,none⟩=some (.bool false):=(aA1 hrow 2 (by simp)).1
  have r3:wr.cell? ⟨w.heap.size+1,3,none⟩=some (.bool false):=(aA1 hrow 3 (by simp)).1
  have r4:wr.cell? ⟨w.heap.size+1,4,none⟩=some (.bool false):=(aA1 hrow 4 (by simp)).1
  have r5:wr.cell? ⟨w.heap.size+1,5,none⟩=some (.bool false):=(aA1 hrow 5 (by simp)).1
  have r6:wr.cell? ⟨w.heap.size+1,6,none⟩=some (.bool false):=(aA1 hrow 6 (by simp)).1
  have r7:wr.cell? ⟨w.heap.size+1,7,none⟩=some (.slice none 0 0):=(aA1 hrow 7 (by simp)).1
  have rf:∀i,wr.frozen? ⟨w.heap.size+1,i,none⟩=false:=fun i=>frozen_of_row wr _ i _ _ hrow;by_cases hlt:k<fields.length
  ·obtain⟨b,off,rfl,hbB,hc⟩:=hA (by omega)
   have hck:∀j,j<8->wr.cell? ⟨b,off+k*8+j,none⟩=some (C k j):=fun j hj=>(hbw.cell (p:=⟨b,off+k*8+j,none⟩) (by show b<_;omega)).trans (hc k hlt j hj)
   have hkt:=hr k hlt;obtain⟨e0,e1,e2,e3,e4,e5,e6,na,nc,e7,-⟩:=(hr k hlt).parts;have c0:wr.cell? ⟨b,off+k*8,none⟩=some (C k 0):=hck 0 (by omega)
   have c1:=hck 1 (by omega)
   have c2:=hck 2 (by omega)
   have c3:=hck 3 (by omega)
   have c4:=hck 4 (by omega)
   have c5:=hck 5 (by omega)
   have c6:=hck 6 (by omega)
   have c7:=hck 7 (by omega)
   rw[e0] at c0 hkt;rw[e1] at c1 hkt;rw[e2] at c2 hkt;rw[e3] at c3 hkt;rw[e4] at c4 hkt;rw[e5] at c5 hkt;rw[e6] at c6 hkt;rw[e7] at c7 hkt;clear hck hc hr hA e0 e1 e2 e3 e4 e5 e6 e7;cases he:((fth fields k).name.toList==s.toList)
   ·go_wp2_with fail
    go_roundw
    case rel=>exact⟨k+1,by omega,by go_num,hbel.alloc (by omega) _,aIQ HP.out he⟩
    case measure=>simp[intOf];omega
   ·have hix:aAB ⟨name,key,fields⟩ s=(k:Int):=aAX HP.out he hlt;have HIX:Hid (aAB ⟨name,key,fields⟩ s=(k:Int)):=hix;clear hix;have A0:∀o,(wr.alloc o).cell? ⟨w.heap.size+1,0,none⟩=some (.string ByteArray.empty):=fun o=>((aA2 wr o).cell (p:=⟨w.heap.size+1,0,none⟩) (by show w.heap.size+1<_;omega)).trans r0
    have A1:∀o,(wr.alloc o).cell? ⟨w.heap.size+1,1,none⟩=some (.string ByteArray.empty):=fun o=>((aA2 wr o).cell (p:=⟨w.heap.size+1,1,none⟩) (by show w.heap.size+1<_;omega)).trans r1
    have A2:∀o,(wr.alloc o).cell? ⟨w.heap.size+1,2,none⟩=some (.bool false):=fun o=>((aA2 wr o).cell (p:=⟨w.heap.size+1,2,none⟩) (by show w.heap.size+1<_;omega)).trans r2
    have A3:∀o,(wr.alloc o).cell? ⟨w.heap.size+1,3,none⟩=some (.bool false):=fun o=>((aA2 wr o).cell (p:=⟨w.heap.size+1,3,none⟩) (by show w.heap.size+1<_;omega)).trans r3
    have A4:∀o,(wr.alloc o).cell? ⟨w.heap.size+1,4,none⟩=some (.bool false):=fun o=>((aA2 wr o).cell (p:=⟨w.heap.size+1,4,none⟩) (by show w.heap.size+1<_;omega)).trans r4
    have A5:∀o,(wr.alloc o).cell? ⟨w.heap.size+1,5,none⟩=some (.bool false):=fun o=>((aA2 wr o).cell (p:=⟨w.heap.size+1,5,none⟩) (by show w.heap.size+1<_;omega)).trans r5
    have A6:∀o,(wr.alloc o).cell? ⟨w.heap.size+1,6,none⟩=some (.bool false):=fun o=>((aA2 wr o).cell (p:=⟨w.heap.size+1,6,none⟩) (by show w.heap.size+1<_;omega)).trans r6
    have A7:∀o,(wr.alloc o).cell? ⟨w.heap.size+1,7,none⟩=some (.slice none 0 0):=fun o=>((aA2 wr o).cell (p:=⟨w.heap.size+1,7,none⟩) (by show w.heap.size+1<_;omega)).trans r7
    have AF:∀o i,(wr.alloc o).frozen? ⟨w.heap.size+1,i,none⟩=false:=fun o i=>((aA2 wr o).frozen (p:=⟨w.heap.size+1,i,none⟩) (by show w.heap.size+1<_;omega)).trans (rf i)
    go_wp2_with fail
    have hbf:Below w.heap.size w (((((((((wr.alloc (.cells #[.string (fth fields k).name,.string (fth fields k).of,.bool (fth fields k).list,.bool (fth fields k).must,.bool (fth fields k).far,.bool (fth fields k).hidden,.bool (fth fields k).shared,.slice na (fth fields k).needs.length nc] 80)).setCell ⟨w.heap.size+1,0,none⟩ (.string (fth fields k).name)).setCell ⟨w.heap.size+1,1,none⟩ (.string (fth fields k).of)).setCell ⟨w.heap.size+1,2,none⟩ (.bool (fth fields k).list)).setCell ⟨w.heap.size+1,3,none⟩ (.bool (fth fields k).must)).setCell ⟨w.heap.size+1,4,none⟩ (.bool (fth fields k).far)).setCell ⟨w.heap.size+1,5,none⟩ (.bool (fth fields k).hidden)).setCell ⟨w.heap.size+1,6,none⟩ (.bool (fth fields k).shared)).setCell ⟨w.heap.size+1,7,none⟩ (.slice na (fth fields k).needs.length nc)):=((((((((hbw.alloc (by omega) _).setCell (by show w.heap.size<=w.heap.size+1;omega) _).setCell (by show w.heap.size<=w.heap.size+1;omega) _).setCell (by show w.heap.size<=w.heap.size+1;omega) _).setCell (by show w.heap.size<=w.heap.size+1;omega) _).setCell (by show w.heap.size<=w.heap.size+1;omega) _).setCell (by show w.heap.size<=w.heap.size+1;omega) _).setCell (by show w.heap.size<=w.heap.size+1;omega) _).setCell (by show w.heap.size<=w.heap.size+1;omega) _
    refine bodyPost_ret (v:=.tuple #[.agg #[.string (fth fields k).name,.string (fth fields k).of,.bool (fth fields k).list,.bool (fth fields k).must,.bool (fth fields k).far,.bool (fth fields k).hidden,.bool (fth fields k).shared,.slice na (fth fields k).needs.length nc],.bool true]) ?res rfl ⟨(fth fields k).name,(fth fields k).of,(fth fields k).list,(fth fields k).must,(fth fields k).far,(fth fields k).hidden,(fth fields k).shared,na,(fth fields k).needs.length,nc,by rw[HIX.out];simp,hbf,?_⟩
    case res=>
     clear hbf hkt hbw hbel HP;simp[results,Tryz.results98,go_sem,A0,A1,A2,A3,A4,A5,A6,A7,AF]
    rw[aAT,if_pos (by rw[HIX.out];omega),HIX.out]
    exact hkt.under (hbf.mono hB)
  ·have hix:aAB ⟨name,key,fields⟩ s=-1:=aB3 ((show k=fields.length by omega)▸HP.out)
   have HIX:Hid (aAB ⟨name,key,fields⟩ s=-1):=hix;clear hix;go_wp2_with fail
   refine bodyPost_ret (v:=.tuple #[.agg #[.string ByteArray.empty,.string ByteArray.empty,.bool false,.bool false,.bool false,.bool false,.bool false,.slice none 0 0],.bool false]) ?res rfl ⟨ByteArray.empty,ByteArray.empty,false,false,false,false,false,none,0,0,by rw[HIX.out];simp,((((((((hbw).setCell (by show w.heap.size<=w.heap.size+1;omega) _).setCell (by show w.heap.size<=w.heap.size+1;omega) _).setCell (by show w.heap.size<=w.heap.size+1;omega) _).setCell (by show w.heap.size<=w.heap.size+1;omega) _).setCell (by show w.heap.size<=w.heap.size+1;omega) _).setCell (by show w.heap.size<=w.heap.size+1;omega) _).setCell (by show w.heap.size<=w.heap.size+1;omega) _).setCell (by show w.heap.size<=w.heap.size+1;omega) _,?_⟩
   case res=>
    clear hbw hbel HP hA hr;simp[results,Tryz.results98,go_sem,r0,r1,r2,r3,r4,r5,r6,r7];rfl
   rw[aAT,if_neg (by rw[HIX.out];omega)]
   exact FRep.zero _ _
end Go.Proofs.YtcebpkeiaiiphaaGreatDoor
namespace Go.Proofs.YtcebpkeiaiiphaaGreatDoor
open Go.RowKit Go.Shelf
def aJG:Go.Shelf.Ren:=⟨fun| 166=>92| 240=>127| 276=>155| n=>n,fun| 0=>0| 3=>3| 4=>4| 5=>5| 9=>9| 20=>20| 37=>114| 70=>164| 72=>166| 75=>101| 80=>170| 164=>199| n=>n,fun| n=>n⟩
theorem aUS:Go.Proofs.Lays.n166 Tryz.prog aJG:={
 mixed:=by kernel_rfl
 f166:=Tryz.func92.trans (congrArg some (by kernel_rfl))
 f240:=Tryz.func127.trans (congrArg some (by kernel_rfl))
 f276:=Tryz.func155.trans (congrArg some (by kernel_rfl))
 t0:=Tryz.underlying0
 a0:=Tryz.isAgg0
 z0:=Tryz.sizeOf0
 v0:=Tryz.zeroValue0
 t3:=Tryz.underlying3
 a3:=Tryz.isAgg3
 z3:=Tryz.sizeOf3
 v3:=Tryz.zeroValue3
 t4:=Tryz.underlying4
 a4:=Tryz.isAgg4
 z4:=Tryz.sizeOf4
 v4:=Tryz.zeroValue4
 t9:=Tryz.underlying9
 a9:=Tryz.isAgg9
 z9:=Tryz.sizeOf9
 v9:=Tryz.zeroValue9
 t20:=Tryz.underlying20
 a20:=Tryz.isAgg20
 z20:=Tryz.sizeOf20
 v20:=Tryz.zeroValue20
 t37:=Tryz.underlying114
 a37:=Tryz.isAgg114
 z37:=Tryz.sizeOf114
 v37:=Tryz.zeroValue114
 t70:=Tryz.underlying164
 a70:=Tryz.isAgg164
 z70:=Tryz.sizeOf164
 v70:=Tryz.zeroValue164
 t72:=Tryz.underlying166
 a72:=Tryz.isAgg166
 z72:=Tryz.sizeOf166
 v72:=Tryz.zeroValue166
 t75:=Tryz.underlying101
 a75:=Tryz.isAgg101
 z75:=Tryz.sizeOf101
 v75:=Tryz.zeroValue101
 t164:=Tryz.underlying199
 a164:=Tryz.isAgg199
 z164:=Tryz.sizeOf199
 v164:=Tryz.zeroValue199 }
theorem aSR:Builder.Extra Tryz.prog aJG:={
 sizeBuilder:=by kernel_rfl
 liesBuilder:=by kernel_rfl
 t5:=Tryz.underlying5
 a5:=Tryz.isAgg5
 z5:=Tryz.sizeOf5
 v5:=Tryz.zeroValue5
 infoByte:=by kernel_rfl
 cellsByte:=by kernel_rfl
 sizeByte:=by kernel_rfl
 neB5:=by decide }
def aIJ:Go.Shelf.Ren:=⟨fun| 167=>137| 240=>127| 276=>155| n=>n,fun| 0=>0| 4=>4| 5=>5| 9=>9| 20=>20| 37=>114| 70=>164| 72=>166| 75=>101| 80=>170| 164=>199| n=>n,fun| n=>n⟩
theorem aUN:Go.Proofs.Lays.n167 Tryz.prog aIJ:={
 mixed:=by kernel_rfl
 f167:=Tryz.func137.trans (congrArg some (by kernel_rfl))
 f240:=Tryz.func127.trans (congrArg some (by kernel_rfl))
 f276:=Tryz.func155.trans (congrArg some (by kernel_rfl))
 t0:=Tryz.underlying0
 a0:=Tryz.isAgg0
 z0:=Tryz.sizeOf0
 v0:=Tryz.zeroValue0
 t4:=Tryz.underlying4
 a4:=Tryz.isAgg4
 z4:=Tryz.sizeOf4
 v4:=Tryz.zeroValue4
 t5:=Tryz.underlying5
 a5:=Tryz.isAgg5
 z5:=Tryz.sizeOf5
 v5:=Tryz.zeroValue5
 t9:=Tryz.underlying9
 a9:=Tryz.isAgg9
 z9:=Tryz.sizeOf9
 v9:=Tryz.zeroValue9
 t20:=Tryz.underlying20
 a20:=Tryz.isAgg20
 z20:=Tryz.sizeOf20
 v20:=Tryz.zeroValue20
 t37:=Tryz.underlying114
 a37:=Tryz.isAgg114
 z37:=Tryz.sizeOf114
 v37:=Tryz.zeroValue114
 t70:=Tryz.underlying164
 a70:=Tryz.isAgg164
 z70:=Tryz.sizeOf164
 v70:=Tryz.zeroValue164
 t72:=Tryz.underlying166
 a72:=Tryz.isAgg166
 z72:=Tryz.sizeOf166
 v72:=Tryz.zeroValue166
 t75:=Tryz.underlying101
 a75:=Tryz.isAgg101
 z75:=Tryz.sizeOf101
 v75:=Tryz.zeroValue101
 t164:=Tryz.underlying199
 a164:=Tryz.isAgg199
 z164:=Tryz.sizeOf199
 v164:=Tryz.zeroValue199 }
theorem aT7:Builder.Extra Tryz.prog aIJ:={
 sizeBuilder:=by kernel_rfl
 liesBuilder:=by kernel_rfl
 t5:=Tryz.underlying5
 a5:=Tryz.isAgg5
 z5:=Tryz.sizeOf5
 v5:=Tryz.zeroValue5
 infoByte:=by kernel_rfl
 cellsByte:=by kernel_rfl
 sizeByte:=by kernel_rfl
 neB5:=by decide }
def aJ6:Go.Shelf.Ren:=⟨fun| 169=>93| n=>n,fun| 0=>0| 3=>3| 5=>5| 9=>9| 37=>114| 70=>164| 72=>166| 80=>170| 127=>212| n=>n,fun| n=>n⟩
theorem aU2:Go.Proofs.Lays.n169 Tryz.prog aJ6:={
 mixed:=by kernel_rfl
 f169:=Tryz.func93.trans (congrArg some (by kernel_rfl))
 t0:=Tryz.underlying0
 a0:=Tryz.isAgg0
 z0:=Tryz.sizeOf0
 v0:=Tryz.zeroValue0
 t3:=Tryz.underlying3
 a3:=Tryz.isAgg3
 z3:=Tryz.sizeOf3
 v3:=Tryz.zeroValue3
 t9:=Tryz.underlying9
 a9:=Tryz.isAgg9
 z9:=Tryz.sizeOf9
 v9:=Tryz.zeroValue9
 t37:=Tryz.underlying114
 a37:=Tryz.isAgg114
 z37:=Tryz.sizeOf114
 v37:=Tryz.zeroValue114
 t70:=Tryz.underlying164
 a70:=Tryz.isAgg164
 z70:=Tryz.sizeOf164
 v70:=Tryz.zeroValue164
 t72:=Tryz.underlying166
 a72:=Tryz.isAgg166
 z72:=Tryz.sizeOf166
 v72:=Tryz.zeroValue166
 t127:=Tryz.underlying212
 a127:=Tryz.isAgg212
 z127:=Tryz.sizeOf212
 v127:=Tryz.zeroValue212 }
theorem aTJ:Builder.Extra Tryz.prog aJ6:={
 sizeBuilder:=by kernel_rfl
 liesBuilder:=by kernel_rfl
 t5:=Tryz.underlying5
 a5:=Tryz.isAgg5
 z5:=Tryz.sizeOf5
 v5:=Tryz.zeroValue5
 infoByte:=by kernel_rfl
 cellsByte:=by kernel_rfl
 sizeByte:=by kernel_rfl
 neB5:=by decide }
def aJ4:Go.Shelf.Ren:=⟨fun| 156=>65| 165=>91| 166=>92| 169=>93| 240=>127| 241=>128| 276=>155| 277=>156| n=>n,fun| 0=>0| 3=>3| 4=>4| 5=>5| 9=>9| 20=>20| 31=>33| 37=>114| 70=>164| 72=>166| 75=>101| 76=>168| 80=>170| 127=>212| 164=>199| n=>n,fun| n=>n⟩
theorem aUE:Go.Proofs.Lays.n156 Tryz.prog aJ4:={
 mixed:=by kernel_rfl
 f156:=Tryz.func65.trans (congrArg some (by kernel_rfl))
 f165:=Tryz.func91.trans (congrArg some (by kernel_rfl))
 f166:=Tryz.func92.trans (congrArg some (by kernel_rfl))
 f169:=Tryz.func93.trans (congrArg some (by kernel_rfl))
 f240:=Tryz.func127.trans (congrArg some (by kernel_rfl))
 f241:=Tryz.func128.trans (congrArg some (by kernel_rfl))
 f276:=Tryz.func155.trans (congrArg some (by kernel_rfl))
 f277:=Tryz.func156.trans (congrArg some (by kernel_rfl))
 t0:=Tryz.underlying0
 a0:=Tryz.isAgg0
 z0:=Tryz.sizeOf0
 v0:=Tryz.zeroValue0
 t3:=Tryz.underlying3
 a3:=Tryz.isAgg3
 z3:=Tryz.sizeOf3
 v3:=Tryz.zeroValue3
 t4:=Tryz.underlying4
 a4:=Tryz.isAgg4
 z4:=Tryz.sizeOf4
 v4:=Tryz.zeroValue4
 t9:=Tryz.underlying9
 a9:=Tryz.isAgg9
 z9:=Tryz.sizeOf9
 v9:=Tryz.zeroValue9
 t20:=Tryz.underlying20
 a20:=Tryz.isAgg20
 z20:=Tryz.sizeOf20
 v20:=Tryz.zeroValue20
 t31:=Tryz.underlying33
 a31:=Tryz.isAgg33
 z31:=Tryz.sizeOf33
 v31:=Tryz.zeroValue33
 t37:=Tryz.underlying114
 a37:=Tryz.isAgg114
 z37:=Tryz.sizeOf114
 v37:=Tryz.zeroValue114
 t70:=Tryz.underlying164
 a70:=Tryz.isAgg164
 z70:=Tryz.sizeOf164
 v70:=Tryz.zeroValue164
 t72:=Tryz.underlying166
 a72:=Tryz.isAgg166
 z72:=Tryz.sizeOf166
 v72:=Tryz.zeroValue166
 t75:=Tryz.underlying101
 a75:=Tryz.isAgg101
 z75:=Tryz.sizeOf101
 v75:=Tryz.zeroValue101
 t76:=Tryz.underlying168
 a76:=Tryz.isAgg168
 z76:=Tryz.sizeOf168
 v76:=Tryz.zeroValue168
 t127:=Tryz.underlying212
 a127:=Tryz.isAgg212
 z127:=Tryz.sizeOf212
 v127:=Tryz.zeroValue212
 t164:=Tryz.underlying199
 a164:=Tryz.isAgg199
 z164:=Tryz.sizeOf199
 v164:=Tryz.zeroValue199 }
theorem aTH:Builder.Extra Tryz.prog aJ4:={
 sizeBuilder:=by kernel_rfl
 liesBuilder:=by kernel_rfl
 t5:=Tryz.underlying5
 a5:=Tryz.isAgg5
 z5:=Tryz.sizeOf5
 v5:=Tryz.zeroValue5
 infoByte:=by kernel_rfl
 cellsByte:=by kernel_rfl
 sizeByte:=by kernel_rfl
 neB5:=by decide }
theorem aTL(bk o c:Nat)(xs:List ByteArray)(sep:ByteArray)(w:World)(hcells:∀(j:Nat) x,xs[j]?=some x->w.cell? ⟨bk,o+j,none⟩=some (.string x))(hbk:bk<w.heap.size)(hN:xs.length<=140737488355328)(hcap:xs.length<=c)(hlen:(Lib.join (xs.map (·.data.toList)) sep.data.toList).length<=140737488355328):
  Calls Tryz.prog 65 #[.slice (some ⟨bk,o,none⟩) xs.length c,.string sep] w fun e w'=>e=.returned (.string ⟨(Lib.join (xs.map (·.data.toList)) sep.data.toList).toArray⟩)∧Below w.heap.size w w':=Any.strings_Join aUE aTH bk o c xs sep w hcells hbk hN hcap hlen
def Bld(B b:Nat)(l:List UInt8)(w:World):Prop:=Lib.IsBuilderF 166 5 B b (Lib.byteCells l) w
def Kept(b:Nat)(w w':World):Prop:=Lib.OthersKept 5 (some b) w w'
theorem aF2(l m:List UInt8):Lib.byteCells l++Lib.byteCells m=Lib.byteCells (l++m):=by simp[Lib.byteCells]
theorem aBR(B b:Nat)(l:List UInt8)(s:ByteArray)(w:World)(h:Bld B b l w)(hlen:l.length+s.size<=140737488355328)(hBw:B<=w.heap.size):
  Calls Tryz.prog 92 #[.pointer (some ⟨b,0,none⟩),.string s] w fun e w'=>e=.returned (.tuple #[.int .i64 s.size,.nilIface])∧Bld B b (l++s.data.toList) w'∧Below B w w'∧Kept b w w':=
 (Any.Builder_WriteString_k aUS aSR B b _ s w h (by rw[Lib.byteCells_length];exact hlen) hBw).mono fun e w' ⟨h1,h2,h3,h4⟩=>⟨h1,Or.inr (by rw[Lib.strCells_eq,aF2] at h2;exact h2),h3,h4⟩
theorem aEU(B b:Nat)(l:List UInt8)(c:UInt8)(w:World)(h:Bld B b l w)(hlen:l.length+1<=140737488355328)(hBw:B<=w.heap.size):
  Calls Tryz.prog 137 #[.pointer (some ⟨b,0,none⟩),.int .u8 c.toNat] w fun e w'=>e=.returned .nilIface∧Bld B b (l++[c]) w'∧Below B w w'∧Kept b w w':=
 (Any.Builder_WriteByte_k aUN aT7 B b _ c.toNat w h (by rw[Lib.byteCells_length];exact hlen) hBw).mono fun e w' ⟨h1,h2,h3,h4⟩=>⟨h1,Or.inr (by rw[show[Value.int .u8 (c.toNat:Int)]=Lib.byteCells [c] from rfl,aF2] at h2;exact h2),h3,h4⟩
theorem aNT(B b:Nat)(l:List UInt8)(w:World)(h:Bld B b l w)(hBw:B<=w.heap.size):
  Calls Tryz.prog 93 #[.pointer (some ⟨b,0,none⟩)] w fun e w'=>e=.returned (.string ⟨l.toArray⟩)∧Below B w w':=
 (Any.Builder_String_any_k aU2 aTJ B b l w h hBw).mono fun e w' ⟨h1,_,h3,_⟩=>⟨h1,h3⟩
theorem Kept.block{b:Nat}{w w':World}(h:Kept b w w'){k:Nat}{cs:Array Value}{t:TypeId}{fz:Nat× Nat}(hk:w.heap[k]?=some (.cells cs t fz))(hne:k≠b)(ht:t≠5):w'.heap[k]?=some (.cells cs t fz):=
 h k _ hk (by intro e;exact hne (Option.some.inj e)) (by intro c z e;injection e with _ e2 _;exact ht e2)
end Go.Proofs.YtcebpkeiaiiphaaGreatDoor
