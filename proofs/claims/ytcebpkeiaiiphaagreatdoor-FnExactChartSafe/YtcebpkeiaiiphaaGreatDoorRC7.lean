import Derived.Test.YtcebpkeiaiiphaaGreatDoorRC5
set_option linter.unusedSimpArgs false
set_option linter.unusedVariables false
namespace Go.Proofs.YtcebpkeiaiiphaaGreatDoor
open Go.RowKit
def Pt.zero:Pt:=⟨ByteArray.empty,[]⟩
def pth(ps:List Pt)(i:Nat):Pt:=ps.getD i Pt.zero
def sayF(p:Pt)(nm n:ByteArray):F:=aAT (aA5 p nm) n
def sayB(p:Pt)(nm n:ByteArray):Bool:=decide (0<=aAB (aA5 p nm) n)
def aGF(p:Pt)(nm n:ByteArray):Bool:=sayB p nm n&&!(sayF p nm n).far
def aBU(ps:List Pt)(nm n:ByteArray):Nat->List Nat
 |0=>[]
 |k+1=>aBU ps nm n k++if aGF (pth ps k) nm n=true then[k] else[]
def aAW(ps:List Pt)(nm n:ByteArray):List Nat:=aBU ps nm n ps.length
def aOC(ps:List Pt)(nm:ByteArray):Int:=aA9 (fun i=>!(aA5 (pth ps i) nm).key.toList.isEmpty) ps.length
def keyM(ps:List Pt)(nm:ByteArray):ByteArray:=if 0<=aOC ps nm then(aA5 (pth ps (aOC ps nm).toNat) nm).key else ByteArray.empty
def aHW(f g:F):Bool:=(f.of.toList==g.of.toList)&&(f.list==g.list)&&(f.must==g.must)
def cntP(q:Nat->Bool):Nat->Nat
 |0=>0
 |k+1=>cntP q k+if q k=true then 1 else 0
def aA7(q:Nat->Bool):Nat->Bool
 |0=>true
 |k+1=>aA7 q k&&q k
theorem aBK(q:Nat->Bool):∀n,aA7 q n=true↔∀i,i<n->q i=true
 |0=>by simp[aA7]
 |n+1=>by
  rw[aA7,Bool.and_eq_true,aBK q n];constructor
  ·rintro⟨h1,h2⟩ i hi;by_cases e:i=n
   ·subst e;exact h2
   ·exact h1 i (by omega)
  ·exact fun h=>⟨fun i hi=>h i (by omega),h n (by omega)⟩
theorem aAJ{q:Nat->Bool}{n i:Nat}(hi:i<n)(h:q i=false):aA7 q n=false:=by
 cases hq:aA7 q n
 ·rfl
 ·rw[(aBK q n).1 hq i hi] at h;cases h
def aEJ(ps:List Pt)(nm:ByteArray)(f:F)(i:Nat):Bool:=!(sayB (pth ps i) nm f.name)||aHW f (sayF (pth ps i) nm f.name)
def aE2(ps:List Pt)(nm n:ByteArray)(i:Nat):Bool:=sayB (pth ps i) nm n&&(sayF (pth ps i) nm n).shared
def aAI(ps:List Pt)(nm n:ByteArray)(i:Nat):Bool:=sayB (pth ps i) nm n&&decide (0<(sayF (pth ps i) nm n).needs.length)
def aC4(ps:List Pt)(nm:ByteArray)(f:F):Bool:=aA7 (fun i=>aA7 (fun k=>!(aAI ps nm (nth f.needs i) k)) ps.length) f.needs.length
def aB0(ps:List Pt)(nm:ByteArray)(f:F):Int:=
 if aA7 (aEJ ps nm f) ps.length=false then 3
 else if(aAW ps nm f.name).length=0 then 6
 else if 1<(aAW ps nm f.name).length∧(f.name.toList==(keyM ps nm).toList)=false∧cntP (aE2 ps nm f.name) ps.length<(aAW ps nm f.name).length then 5
 else if 0<cntP (aAI ps nm f.name) ps.length∧1<(aAW ps nm f.name).length then 7
 else if aC4 ps nm f=false then 7
 else 0
def aCO(ps:List Pt)(t:T):Bool:=t.key.toList.isEmpty||(t.key.toList==(keyM ps t.name).toList)
def aC7(ps:List Pt)(t:T):Bool:=aCO ps t&&aA7 (fun n=>aB0 ps t.name (fth t.fields n)==0) t.fields.length
def aF3(ps:List Pt)(okp:Pt->Bool)(i:Nat):Bool:=okp (pth ps i)&&aA7 (fun k=>!((pth ps k).name.toList==(pth ps i).name.toList)) i
def aBV(ps:List Pt)(okp:Pt->Bool):Bool:=decide (0<ps.length)&&decide (ps.length<=4)&&aA7 (aF3 ps okp) ps.length&&aA7 (fun i=>aA7 (fun k=>aC7 ps (tth (pth ps i).types k)) (pth ps i).types.length) ps.length
def putF(t:T)(f:F):T:=
 if 0<=aAB t f.name then
  { t with fields:=t.fields.set (aAB t f.name).toNat { (fth t.fields (aAB t f.name).toNat) with hidden:=(fth t.fields (aAB t f.name).toNat).hidden||f.hidden,needs:=if f.needs.length=0 then(fth t.fields (aAB t f.name).toNat).needs else f.needs } }
 else { t with fields:=t.fields++[⟨f.name,f.of,f.list,f.must,false,f.hidden,false,f.needs⟩] }
def aF9(o t:T):Nat->T
 |0=>o
 |n+1=>putF (aF9 o t n) (fth t.fields n)
def tyIx(out:List T)(nm:ByteArray):Int:=aA9 (fun i=>(tth out i).name.toList==nm.toList) out.length
def aQS(ps:List Pt)(out:List T)(t:T):List T:=
 if 0<=tyIx out t.name then out.set (tyIx out t.name).toNat (aF9 (tth out (tyIx out t.name).toNat) t t.fields.length)
 else out++[aF9 ⟨t.name,keyM ps t.name,[]⟩ t t.fields.length]
def aC9(ps:List Pt)(p:Pt)(out:List T):Nat->List T
 |0=>out
 |k+1=>aQS ps (aC9 ps p out k) (tth p.types k)
def aBW(ps:List Pt):Nat->List T
 |0=>[]
 |i+1=>aC9 ps (pth ps i) (aBW ps i) (pth ps i).types.length
def allM(ps:List Pt):Pt:=⟨⟨#[97]⟩,aBW ps ps.length⟩
def aBA(ps:List Pt)(okp:Pt->Bool):Bool:=aBV ps okp&&okp (allM ps)
def aAP(w:World)(P:Nat->Prop)(ps:List Pt)(a:Option Addr):Prop:=40*ps.length<=281474976710656∧∃C:Nat->Nat->Value,Arr w P 2 ps.length a C∧∀i,i<ps.length->PRep w P (pth ps i) (.agg #[C i 0,C i 1])
theorem aAP.mono{w w':World}{P:Nat->Prop}{ps:List Pt}{a:Option Addr}(h:aAP w P ps a)(e:∀k,P k->w'.heap[k]?=w.heap[k]?):aAP w' P ps a:=by
 obtain⟨h0,C,h1,h2⟩:=h;exact⟨h0,C,h1.mono e,fun i hi=>(h2 i hi).mono e⟩
theorem aAP.sub{w:World}{P Q:Nat->Prop}{ps:List Pt}{a:Option Addr}(h:aAP w P ps a)(e:∀k,P k->Q k):aAP w Q ps a:=by
 obtain⟨h0,C,h1,h2⟩:=h;exact⟨h0,C,h1.sub e,fun i hi=>(h2 i hi).sub e⟩
theorem aAP.under{w w':World}{B:Nat}{ps:List Pt}{a:Option Addr}(h:aAP w (·<B) ps a)(hb:Below B w w'):aAP w' (·<B) ps a:=h.mono fun k hk=>hb.block k hk
theorem aAP.at{w:World}{B:Nat}{ps:List Pt}{a:Option Addr}(h:aAP w (·<B) ps a)(i:Nat)(hi:i<ps.length):
  ∃(b off:Nat) (ta:Option Addr) (tc:Nat),a=some ⟨b,off,none⟩∧b<B∧w.cell? ⟨b,off+i*2,none⟩=some (.string (pth ps i).name)∧w.cell? ⟨b,off+i*2+1,none⟩=some (.slice ta (pth ps i).types.length tc)∧PRep w (·<B) (pth ps i) (.agg #[.string (pth ps i).name,.slice ta (pth ps i).types.length tc]):=by
 obtain⟨-,C,hA,hr⟩:=h;obtain⟨b,off,rfl,hb,hc⟩:=hA (by omega)
 have hp:=hr i hi;obtain⟨ta,tc,e,-⟩:=hp;simp only[Value.agg.injEq,Array.mk.injEq,List.cons.injEq,and_true] at e;refine⟨b,off,ta,tc,rfl,hb,?_,?_,?_⟩
 ·rw[<-e.1];exact hc i hi 0 (by omega)
 ·rw[<-e.2];exact hc i hi 1 (by omega)
 ·rw[<-e.1,<-e.2];exact hr i hi
theorem aA0{q:Prop}(h:q):Hid q:=h
theorem aA3{w:World}{N:Nat}(c:Array Value)(T:TypeId)(h:w.heap.size=N):(w.alloc (.cells c T)).heap[N]?=some (.cells c T (0,0)):=by subst h;exact heap_alloc_new w _
theorem aAC{w:World}{N:Nat}{cs:Array Value}{T:TypeId}(h:w.heap[N]?=some (.cells cs T (0,0)))(i:Nat)(d:Value):(w.setCell ⟨N,i,none⟩ d).heap[N]?=some (.cells (cs.setIfInBounds i d) T (0,0)):=by
 show(w.heap.modify N _)[N]?=_;rw[Array.getElem?_modify];simp[h]
theorem aAE{w w':World}{base e sz n:Nat}{v:Value}{xs:List Value}(h:w.ownsRow base e sz v n xs)(hb:Below w.heap.size w w'):w'.ownsRow base e sz v n xs:=by
 refine⟨h.1,h.2.imp id ?_⟩;rintro⟨g,cap,cur,rfl,hg,hh,hr⟩;exact⟨g,cap,cur,rfl,hg,(hb.block g (Array.getElem?_eq_some_iff.1 hh).1).trans hh,hr⟩
theorem aB9{w w':World}{base e sz n:Nat}{v:Value}{xs:List Value}(h:w.ownsRow base e sz v n xs)(hb:∀k,v.ownBlock=some k->w'.heap[k]?=w.heap[k]?):w'.ownsRow base e sz v n xs:=by
 refine⟨h.1,h.2.imp id ?_⟩;rintro⟨g,cap,cur,rfl,hg,hh,hr⟩;exact⟨g,cap,cur,rfl,hg,(hb g rfl).trans hh,hr⟩
theorem aAA{w:World}{t:Addr}{old:Value}(h:w.cell? t=some old):t.block<w.heap.size:=by
 rcases Nat.lt_or_ge t.block w.heap.size with h1| h1
 ·exact h1
 ·simp[World.cell?,Array.getElem?_eq_none h1] at h
def aET(t:T)(f:F):Bool:=isT f.of [105,110,116]&&!f.list&&!f.far&&!f.must&&!t.key.toList.isEmpty&&!(f.name.toList==t.key.toList)
def aEA(g:F):Bool:=!decide (0<(g.needs.length:Int))&&isT g.of [105,110,116]&&!g.list
def aDB(t:T)(f:F)(i:Nat):Bool:=decide (0<=aAB t (nth f.needs i))&&aEA (fth t.fields (aAB t (nth f.needs i)).toNat)&&(i==0||Op.bytesLess (nth f.needs (i- 1)).toList (nth f.needs i).toList)
def aFI(t:T)(f:F)(n:Nat):Bool:=(List.range n).all fun i=>aDB t f i
theorem aGM(t:T)(f:F)(n:Nat):aFI t f (n+1)=(aFI t f n&&aDB t f n):=by simp[aFI,List.range_succ]
theorem aMP(t:T)(f:F)(n k:Nat)(hk:k<n)(h:aDB t f k=false):aFI t f n=false:=by
 rw[aFI,List.all_eq_false];exact⟨k,by simpa using hk,by simpa using h⟩
def aE7(t:T)(f:F):Bool:=(f.needs.isEmpty||aET t f)&&aFI t f f.needs.length
set_option maxHeartbeats 1600000 in
theorem aMZ(t:T)(f:F)(w:World)(v u:Value)(B:Nat)(hR:TRep w (·<B) t v)(hF:FRep w (·<B) f u)(hB:B<=w.heap.size)(h0:f.needs=[]):
  Calls Tryz.prog 103 #[v,u] w fun e w'=>e=.returned (.bool (aE7 t f))∧Below w.heap.size w w':=by
 obtain⟨tn,key,fields⟩:=t;obtain⟨fa,fc,rfl,hK,-⟩:=hR;obtain⟨na,nc,rfl,-⟩:=hF;obtain⟨name,of,l,m,fr,hi,sh,needs⟩:=f;simp only at h0;subst h0;go_enter Tryz.func103,Tryz.ntmps103
 go_wp2_with fail
 go_loop [5,6] (fun i _=>i=.int .i64 0) (fun _ _=>0)
 case atStart=>rfl
 case round=>
  subst hrel;go_wp2_with fail
  go_ret
  exact⟨aA4 (by simp[aE7,aFI]),aA6 _ _ _⟩
set_option maxHeartbeats 1600000 in
theorem aMH(t:T)(f:F)(w:World)(v u:Value)(B:Nat)(hR:TRep w (·<B) t v)(hF:FRep w (·<B) f u)(hB:B<=w.heap.size)(h0:0<f.needs.length)(hh:aET t f=false):
  Calls Tryz.prog 103 #[v,u] w fun e w'=>e=.returned (.bool (aE7 t f))∧Below w.heap.size w w':=by
 have hb:Hid (aE7 t f=false):=by
  show _=_;have:f.needs.isEmpty=false:=by cases h:f.needs with
   |nil=>simp[h] at h0
   |cons a b=>rfl
  simp only[aE7,this,hh];rfl
 obtain⟨tn,key,fields⟩:=t;obtain⟨fa,fc,rfl,hK,-⟩:=hR;obtain⟨na,nc,rfl,-⟩:=hF;obtain⟨name,of,l,m,fr,hi,sh,needs⟩:=f;simp only at h0;have h0':(0:Int)<(needs.length:Int):=by omega
 simp only[aET,isT] at hh;cases h1:(of.toList==[105,110,116]);case false=>
  clear hh;go_enter Tryz.func103,Tryz.ntmps103
  go_wp2_with fail
  go_ret
  exact⟨aA4 hb.out.symm,aA6 _ _ _⟩
 cases l;case true=>
  clear hh;go_enter Tryz.func103,Tryz.ntmps103
  go_wp2_with fail
  go_ret
  exact⟨aA4 hb.out.symm,aA6 _ _ _⟩
 cases fr;case true=>
  clear hh;go_enter Tryz.func103,Tryz.ntmps103
  go_wp2_with fail
  go_ret
  exact⟨aA4 hb.out.symm,aA6 _ _ _⟩
 cases m;case true=>
  clear hh;go_enter Tryz.func103,Tryz.ntmps103
  go_wp2_with fail
  go_ret
  exact⟨aA4 hb.out.symm,aA6 _ _ _⟩
 cases h2:key.toList.isEmpty;case true=>
  clear hh;go_enter Tryz.func103,Tryz.ntmps103
  go_wp2_with fail
  go_ret
  exact⟨aA4 hb.out.symm,aA6 _ _ _⟩
 have h3:(name.toList==key.toList)=true:=by
  rw[h1,h2] at hh;simpa using hh
 clear hh;go_enter Tryz.func103,Tryz.ntmps103
 go_wp2_with fail
 go_ret
 exact⟨aA4 hb.out.symm,aA6 _ _ _⟩
def orB(on:Bool)(x s:Int):Int:=if on then bits BinOp.or IntKind.u8 x s else x
theorem aUB(W:World)(N:Nat)(hN:W.heap.size=N)(x s:Int)(c1 c2 c3 c4 c5 c6 c7 c8:Value)(on:Bool):
  Calls Tryz.prog 167 #[.pointer (some ⟨N,0,none⟩),.int .u8 s,.bool on] (W.alloc (.cells #[.int .u8 x,c1,c2,c3,c4,c5,c6,c7,c8] 219)) fun e w'=>e=.returned (.tuple #[])∧W.alloc (.cells #[.int .u8 (orB on x s),c1,c2,c3,c4,c5,c6,c7,c8] 219)=w':=by
 subst hN;cases on
 ·go_enter Tryz.func167,Tryz.ntmps167
  go_wp2_with fail
  refine bodyPost_end (v:=.tuple #[]) ?res rfl ⟨rfl,rfl⟩;case res=>simp[results,Tryz.results167,go_sem]
 ·go_enter Tryz.func167,Tryz.ntmps167
  go_wp2_with fail
  refine bodyPost_end (v:=.tuple #[]) ?res rfl ⟨rfl,rfl⟩;case res=>simp[results,Tryz.results167,go_sem]
def aCD(l m fr hi sh:Bool):Int:=orB sh (orB hi (orB fr (orB m (orB l 0 1) 2) 4) 8) 16
set_option maxHeartbeats 800000 in
theorem aBN(nm of:ByteArray)(l m fr hi sh:Bool)(na:Option Addr)(nl nc:Nat)(w:World):
  Calls Tryz.prog 139 #[.agg #[.string nm,.string of,.bool l,.bool m,.bool fr,.bool hi,.bool sh,.slice na nl nc]] w fun e w'=>e=.returned (.agg #[.int .u8 (aCD l m fr hi sh),.string nm,.string of,.bool l,.bool m,.bool fr,.bool hi,.bool sh,.slice na nl nc])∧Below w.heap.size w w':=by
 go_enter Tryz.func139,Tryz.ntmps139
 go_wp2_with (go_at_call 167;refine(aUB _ _ (by simp) _ _ _ _ _ _ _ _ _ _ _).mono ?_;rintro e w' ⟨rfl,rfl⟩)
 refine bodyPost_ret (v:=.agg #[.int .u8 (aCD l m fr hi sh),.string nm,.string of,.bool l,.bool m,.bool fr,.bool hi,.bool sh,.slice na nl nc]) ?res rfl ⟨rfl,?_⟩;case res=>simp[results,Tryz.results139,go_sem,aCD]
 exact(((Below.refl _ _).alloc (Nat.le_refl _) _).alloc (by simp) _).alloc (by simp;omega) _
def allB(x s:Int):Bool:=bits BinOp.and IntKind.u8 x s==s
def anyB(x s:Int):Bool:=bits BinOp.and IntKind.u8 x s !=0
theorem aD7(x s:Int)(w:World):Calls Tryz.prog 161 #[.int .u8 x,.int .u8 s] w fun e w'=>e=.returned (.bool (allB x s))∧w=w':=by
 go_enter Tryz.func161,Tryz.ntmps161
 go_wp2_with fail
 go_ret
 exact⟨rfl,rfl⟩
theorem aHD(x s:Int)(w:World):Calls Tryz.prog 174 #[.int .u8 x,.int .u8 s] w fun e w'=>e=.returned (.bool (anyB x s))∧w=w':=by
 go_enter Tryz.func174,Tryz.ntmps174
 go_wp2_with fail
 go_ret
 exact⟨rfl,rfl⟩
theorem aM9(l m fr hi sh:Bool):allB (aCD l m fr hi sh) 2=m:=by cases l<;>cases m<;>cases fr<;>cases hi<;>cases sh<;>decide
theorem aRQ(l m fr hi sh:Bool):allB (aCD l m fr hi sh) 1=l:=by cases l<;>cases m<;>cases fr<;>cases hi<;>cases sh<;>decide
theorem aTP(l m fr hi sh:Bool):allB (aCD l m fr hi sh) 4=fr:=by cases l<;>cases m<;>cases fr<;>cases hi<;>cases sh<;>decide
theorem aO8(l m fr hi sh:Bool):allB (aCD l m fr hi sh) 8=hi:=by cases l<;>cases m<;>cases fr<;>cases hi<;>cases sh<;>decide
theorem aOG(l m fr hi sh:Bool):allB (aCD l m fr hi sh) 16=sh:=by cases l<;>cases m<;>cases fr<;>cases hi<;>cases sh<;>decide
theorem aQ9(l m fr hi sh:Bool):allB (aCD l m fr hi sh) 20=(fr&&sh):=by cases l<;>cases m<;>cases fr<;>cases hi<;>cases sh<;>decide
theorem aSI(l m fr hi sh:Bool):anyB (aCD l m fr hi sh) 13=(l||fr||hi):=by cases l<;>cases m<;>cases fr<;>cases hi<;>cases sh<;>decide
theorem aR8(l m fr hi sh:Bool):anyB (aCD l m fr hi sh) 1=l:=by cases l<;>cases m<;>cases fr<;>cases hi<;>cases sh<;>decide
theorem aRY(l m fr hi sh:Bool):anyB (aCD l m fr hi sh) 7=(l||fr||m):=by cases l<;>cases m<;>cases fr<;>cases hi<;>cases sh<;>decide
def aH2(f:F)(t:T):Bool:=decide (0<=aAB t f.name)&&(!(aAT t f.name).hidden&&((aAT t f.name).of.toList==f.of.toList&&(aAT t f.name).list==f.list))
set_option maxHeartbeats 3200000 in
theorem aIC(f:F)(t:T)(w:World)(B:Nat)(v u:Value)(hF:FRep w (·<B) f v)(hT:TRep w (·<B) t u)(hB:B<=w.heap.size):
  Calls Tryz.prog 67 #[v,u] w fun e w'=>e=.returned (.bool (aH2 f t))∧Below w.heap.size w w':=by
 have hT':=hT;obtain⟨nm,of,l,m,fr,hi,sh,needs⟩:=f;obtain⟨na,nc,rfl,hS,hnc,hn1,hn2,hn16⟩:=hF;obtain⟨fa,fc,rfl,hK,hfc,ht1,ht2⟩:=hT;simp only at hS hnc hn1 hn2 hn16;have hQ:=fun W (h:Below w.heap.size w W)=>aCP t W B _ nm (hT'.under (h.mono hB)) (by have:=h.size;omega)
 have hE:Hid (aH2 ⟨nm,of,l,m,fr,hi,sh,needs⟩ t=(decide (0<=aAB t nm)&&(!(aAT t nm).hidden&&((aAT t nm).of.toList==of.toList&&(aAT t nm).list==l)))):=rfl;generalize aAT t nm=g at hQ hE;generalize hd:decide (0<=aAB t nm)=d at hQ hE;have hbx:Below w.heap.size w ((w.alloc (.cells #[.string nm,.string of,.bool l,.bool m,.bool fr,.bool hi,.bool sh,.slice na needs.length nc] 80)).alloc (.cells #[.string t.name,.string t.key,.slice fa t.fields.length fc] 96)):=aA6 w _ _;have A:∀W,Below (w.heap.size+1+1) ((w.alloc (.cells #[.string nm,.string of,.bool l,.bool m,.bool fr,.bool hi,.bool sh,.slice na needs.length nc] 80)).alloc (.cells #[.string t.name,.string t.key,.slice fa t.fields.length fc] 96)) W->(∀o,(W.alloc o).cell? ⟨w.heap.size,1,none⟩=some (.string of))∧(∀o,(W.alloc o).cell? ⟨w.heap.size,2,none⟩=some (.bool l)):=fun W h=>by
  have hz:=h.size;simp at hz;have a:∀o i (hq:i<8),(W.alloc o).cell? ⟨w.heap.size,i,none⟩=some #[Value.string nm,.string of,.bool l,.bool m,.bool fr,.bool hi,.bool sh,.slice na needs.length nc][i]:=fun o i hq=>((aA2 W o).cell (p:=⟨w.heap.size,i,none⟩) (by show w.heap.size<_;omega)).trans ((h.cell (p:=⟨w.heap.size,i,none⟩) (by show w.heap.size<_;omega)).trans (((aA2 _ _).cell (p:=⟨w.heap.size,i,none⟩) (by show w.heap.size<_;simp)).trans (aBC _ _ i (by simpa using hq))))
  exact⟨fun o=>a o 1 (by omega),fun o=>a o 2 (by omega)⟩
 obtain⟨gn,go,gl,gm,gf,gh,gs,gN⟩:=g;simp only at hE;have hQ1:=hQ _ hbx;clear hQ;cases d
 ·go_enter Tryz.func67,Tryz.ntmps67
  go_wp2_with (
   go_at_call 98
   refine hQ1.mono ?_;rintro e w1 ⟨nm',of',l',m',fr',hi',sh',na',nl',nc',rfl,hb1,na2,nc2,he,-⟩;simp only[Value.agg.injEq,Array.mk.injEq,List.cons.injEq,Value.string.injEq,Value.bool.injEq] at he;obtain⟨rfl,rfl,rfl,rfl,rfl,rfl,rfl,-⟩:=he;obtain⟨a1,a2⟩:=A w1 (hb1.mono (by simp))
   have hw1:=hbx.trans (hb1.mono (by simp;omega)))
  go_ret
  exact⟨aA4 (by rw[hE.out];rfl),by first| exact hw1| exact hw1.alloc (by have:=hw1.size;omega) _⟩
 cases gh
 rotate_left
 ·go_enter Tryz.func67,Tryz.ntmps67
  go_wp2_with (
   go_at_call 98
   refine hQ1.mono ?_;rintro e w1 ⟨nm',of',l',m',fr',hi',sh',na',nl',nc',rfl,hb1,na2,nc2,he,-⟩;simp only[Value.agg.injEq,Array.mk.injEq,List.cons.injEq,Value.string.injEq,Value.bool.injEq] at he;obtain⟨rfl,rfl,rfl,rfl,rfl,rfl,rfl,-⟩:=he;obtain⟨a1,a2⟩:=A w1 (hb1.mono (by simp))
   have hw1:=hbx.trans (hb1.mono (by simp;omega)))
  go_ret
  exact⟨aA4 (by rw[hE.out];rfl),by first| exact hw1| exact hw1.alloc (by have:=hw1.size;omega) _⟩
 cases hq:(go.toList==of.toList)
 ·go_enter Tryz.func67,Tryz.ntmps67
  go_wp2_with (
   go_at_call 98
   refine hQ1.mono ?_;rintro e w1 ⟨nm',of',l',m',fr',hi',sh',na',nl',nc',rfl,hb1,na2,nc2,he,-⟩;simp only[Value.agg.injEq,Array.mk.injEq,List.cons.injEq,Value.string.injEq,Value.bool.injEq] at he;obtain⟨rfl,rfl,rfl,rfl,rfl,rfl,rfl,-⟩:=he;obtain⟨a1,a2⟩:=A w1 (hb1.mono (by simp))
   have hw1:=hbx.trans (hb1.mono (by simp;omega)))
  go_ret
  exact⟨aA4 (by rw[hE.out];rw[hq];rfl),by first| exact hw1| exact hw1.alloc (by have:=hw1.size;omega) _⟩
 ·go_enter Tryz.func67,Tryz.ntmps67
  go_wp2_with (
   go_at_call 98
   refine hQ1.mono ?_;rintro e w1 ⟨nm',of',l',m',fr',hi',sh',na',nl',nc',rfl,hb1,na2,nc2,he,-⟩;simp only[Value.agg.injEq,Array.mk.injEq,List.cons.injEq,Value.string.injEq,Value.bool.injEq] at he;obtain⟨rfl,rfl,rfl,rfl,rfl,rfl,rfl,-⟩:=he;obtain⟨a1,a2⟩:=A w1 (hb1.mono (by simp))
   have hw1:=hbx.trans (hb1.mono (by simp;omega)))
  go_ret
  exact⟨aA4 (by rw[hE.out];rw[hq];rfl),by first| exact hw1| exact hw1.alloc (by have:=hw1.size;omega) _⟩
set_option maxHeartbeats 400000 in
theorem aL3(a b:ByteArray)(w:World)(h:a.size+b.size+1<=9223372036854775807):
  Calls Tryz.prog 43 #[.string a,.string b] w fun e w'=>e=.returned (.string (a++⟨#[46]⟩++b))∧w=w':=by
 have h1:a.size+1<=9223372036854775807:=by omega
 have h2:a.size+1+b.size<=9223372036854775807:=by omega
 go_enter Tryz.func43,Tryz.ntmps43
 go_wp2_with fail
 go_ret
 exact⟨rfl,rfl⟩
end Go.Proofs.YtcebpkeiaiiphaaGreatDoor
