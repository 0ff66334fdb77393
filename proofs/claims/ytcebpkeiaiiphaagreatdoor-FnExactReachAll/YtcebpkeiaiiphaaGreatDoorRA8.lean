import Derived.Test.YtcebpkeiaiiphaaGreatDoorRA6
set_option linter.unusedSimpArgs false
set_option linter.unusedVariables false
namespace Go.Proofs.YtcebpkeiaiiphaaGreatDoor
open Go.RowKit
def Pt.zero:Pt:=⟨ByteArray.empty,[]⟩
def pth(ps:List Pt)(i:Nat):Pt:=ps.getD i Pt.zero
def sayF(p:Pt)(nm n:ByteArray):F:=aB8 (aA7 p nm) n
def sayB(p:Pt)(nm n:ByteArray):Bool:=decide (0≤aAC (aA7 p nm) n)
def aG8(p:Pt)(nm n:ByteArray):Bool:=sayB p nm n&&!(sayF p nm n).far
def aBV(ps:List Pt)(nm n:ByteArray):Nat→List Nat
 |0=>[]
 |k+1=>aBV ps nm n k++if aG8 (pth ps k) nm n=true then[k] else[]
def aAV(ps:List Pt)(nm n:ByteArray):List Nat:=aBV ps nm n ps.length
def aN7(ps:List Pt)(nm:ByteArray):Int:=aA9 (fun i=>!(aA7 (pth ps i) nm).key.toList.isEmpty) ps.length
def keyM(ps:List Pt)(nm:ByteArray):ByteArray:=if 0≤aN7 ps nm then(aA7 (pth ps (aN7 ps nm).toNat) nm).key else ByteArray.empty
def aI0(f g:F):Bool:=(f.of.toList==g.of.toList)&&(f.list==g.list)&&(f.must==g.must)
def cntP(q:Nat→Bool):Nat→Nat
 |0=>0
 |k+1=>cntP q k+if q k=true then 1 else 0
def aA6(q:Nat→Bool):Nat→Bool
 |0=>true
 |k+1=>aA6 q k&&q k
theorem aBI(q:Nat→Bool):∀n,aA6 q n=true↔∀i,i<n→q i=true
 |0=>by simp[aA6]
 |n+1=>by
  rw[aA6,Bool.and_eq_true,aBI q n]
  constructor
  ·rintro⟨h1,h2⟩ i hi
   by_cases e:i=n
   ·subst e;exact h2
   ·exact h1 i (by omega)
  ·exact fun h=>⟨fun i hi=>h i (by omega),h n (by omega)⟩
theorem aAI{q:Nat→Bool}{n i:Nat}(hi:i<n)(h:q i=false):aA6 q n=false:=by
 cases hq:aA6 q n
 ·rfl
 ·rw[(aBI q n).1 hq i hi] at h;cases h
def aEC(ps:List Pt)(nm:ByteArray)(f:F)(i:Nat):Bool:=!(sayB (pth ps i) nm f.name)||aI0 f (sayF (pth ps i) nm f.name)
def aE7(ps:List Pt)(nm n:ByteArray)(i:Nat):Bool:=sayB (pth ps i) nm n&&(sayF (pth ps i) nm n).shared
def aAH(ps:List Pt)(nm n:ByteArray)(i:Nat):Bool:=sayB (pth ps i) nm n&&decide (0<(sayF (pth ps i) nm n).needs.length)
def aC5(ps:List Pt)(nm:ByteArray)(f:F):Bool:=aA6 (fun i=>aA6 (fun k=>!(aAH ps nm (nth f.needs i) k)) ps.length) f.needs.length
def aB0(ps:List Pt)(nm:ByteArray)(f:F):Int:=
 if aA6 (aEC ps nm f) ps.length=false then 3
 else if(aAV ps nm f.name).length=0 then 6
 else if 1<(aAV ps nm f.name).length∧(f.name.toList==(keyM ps nm).toList)=false∧cntP (aE7 ps nm f.name) ps.length<(aAV ps nm f.name).length then 5
 else if 0<cntP (aAH ps nm f.name) ps.length∧1<(aAV ps nm f.name).length then 7
 else if aC5 ps nm f=false then 7
 else 0
def aCO(ps:List Pt)(t:T):Bool:=t.key.toList.isEmpty||(t.key.toList==(keyM ps t.name).toList)
def aC8(ps:List Pt)(t:T):Bool:=aCO ps t&&aA6 (fun n=>aB0 ps t.name (fth t.fields n)==0) t.fields.length
def aEZ(ps:List Pt)(okp:Pt→Bool)(i:Nat):Bool:=okp (pth ps i)&&aA6 (fun k=>!((pth ps k).name.toList==(pth ps i).name.toList)) i
def aBU(ps:List Pt)(okp:Pt→Bool):Bool:=decide (0<ps.length)&&decide (ps.length≤4)&&aA6 (aEZ ps okp) ps.length&&aA6 (fun i=>aA6 (fun k=>aC8 ps (tth (pth ps i).types k)) (pth ps i).types.length) ps.length
def putF(t:T)(f:F):T:=
 if 0≤aAC t f.name then
  { t with fields:=t.fields.set (aAC t f.name).toNat { (fth t.fields (aAC t f.name).toNat) with hidden:=(fth t.fields (aAC t f.name).toNat).hidden||f.hidden,needs:=if f.needs.length=0 then(fth t.fields (aAC t f.name).toNat).needs else f.needs } }
 else { t with fields:=t.fields++[⟨f.name,f.of,f.list,f.must,false,f.hidden,false,f.needs⟩] }
def aF8(o t:T):Nat→T
 |0=>o
 |n+1=>putF (aF8 o t n) (fth t.fields n)
def tyIx(out:List T)(nm:ByteArray):Int:=aA9 (fun i=>(tth out i).name.toList==nm.toList) out.length
def aR1(ps:List Pt)(out:List T)(t:T):List T:=
 if 0≤tyIx out t.name then out.set (tyIx out t.name).toNat (aF8 (tth out (tyIx out t.name).toNat) t t.fields.length)
 else out++[aF8 ⟨t.name,keyM ps t.name,[]⟩ t t.fields.length]
def aCA(ps:List Pt)(p:Pt)(out:List T):Nat→List T
 |0=>out
 |k+1=>aR1 ps (aCA ps p out k) (tth p.types k)
def aBX(ps:List Pt):Nat→List T
 |0=>[]
 |i+1=>aCA ps (pth ps i) (aBX ps i) (pth ps i).types.length
def allM(ps:List Pt):Pt:=⟨⟨#[97]⟩,aBX ps ps.length⟩
def aBT(ps:List Pt)(okp:Pt→Bool):Bool:=aBU ps okp&&okp (allM ps)
def aAZ(w:World)(P:Nat→Prop)(ps:List Pt)(a:Option Addr):Prop:=40*ps.length≤281474976710656∧∃C:Nat→Nat→Value,Arr w P 2 ps.length a C∧∀i,i<ps.length→PRep w P (pth ps i) (.agg #[C i 0,C i 1])
theorem aAZ.mono{w w':World}{P:Nat→Prop}{ps:List Pt}{a:Option Addr}(h:aAZ w P ps a)(e:∀k,P k→w'.heap[k]?=w.heap[k]?):aAZ w' P ps a:=by
 obtain⟨h0,C,h1,h2⟩:=h;exact⟨h0,C,h1.mono e,fun i hi=>(h2 i hi).mono e⟩
theorem aAZ.sub{w:World}{P Q:Nat→Prop}{ps:List Pt}{a:Option Addr}(h:aAZ w P ps a)(e:∀k,P k→Q k):aAZ w Q ps a:=by
 obtain⟨h0,C,h1,h2⟩:=h;exact⟨h0,C,h1.sub e,fun i hi=>(h2 i hi).sub e⟩
theorem aAZ.under{w w':World}{B:Nat}{ps:List Pt}{a:Option Addr}(h:aAZ w (·<B) ps a)(hb:Below B w w'):aAZ w' (·<B) ps a:=h.mono fun k hk=>hb.block k hk
theorem aAZ.at{w:World}{B:Nat}{ps:List Pt}{a:Option Addr}(h:aAZ w (·<B) ps a)(i:Nat)(hi:i<ps.length):
  ∃(b off:Nat) (ta:Option Addr) (tc:Nat),a=some ⟨b,off,none⟩∧b<B∧w.cell? ⟨b,off+i*2,none⟩=some (.string (pth ps i).name)∧w.cell? ⟨b,off+i*2+1,none⟩=some (.slice ta (pth ps i).types.length tc)∧PRep w (·<B) (pth ps i) (.agg #[.string (pth ps i).name,.slice ta (pth ps i).types.length tc]):=by
 obtain⟨-,C,hA,hr⟩:=h
 obtain⟨b,off,rfl,hb,hc⟩:=hA (by omega)
 have hp:=hr i hi
 obtain⟨ta,tc,e,-⟩:=hp
 simp only[Value.agg.injEq,Array.mk.injEq,List.cons.injEq,and_true] at e
 refine⟨b,off,ta,tc,rfl,hb,?_,?_,?_⟩
 ·rw[←e.1];exact hc i hi 0 (by omega)
 ·rw[←e.2];exact hc i hi 1 (by omega)
 ·rw[←e.1,←e.2];exact hr i hi
theorem aA0{q:Prop}(h:q):Hid q:=h
theorem aA3{w:World}{N:Nat}(c:Array Value)(T:TypeId)(h:w.heap.size=N):(w.alloc (.cells c T)).heap[N]?=some (.cells c T (0,0)):=by subst h;exact heap_alloc_new w _
theorem aAB{w:World}{N:Nat}{cs:Array Value}{T:TypeId}(h:w.heap[N]?=some (.cells cs T (0,0)))(i:Nat)(d:Value):(w.setCell ⟨N,i,none⟩ d).heap[N]?=some (.cells (cs.setIfInBounds i d) T (0,0)):=by
 show(w.heap.modify N _)[N]?=_
 rw[Array.getElem?_modify]
 simp[h]
theorem aAE{w w':World}{base e sz n:Nat}{v:Value}{xs:List Value}(h:w.ownsRow base e sz v n xs)(hb:Below w.heap.size w w'):w'.ownsRow base e sz v n xs:=by
 refine⟨h.1,h.2.imp id ?_⟩
 rintro⟨g,cap,cur,rfl,hg,hh,hr⟩
 exact⟨g,cap,cur,rfl,hg,(hb.block g (Array.getElem?_eq_some_iff.1 hh).1).trans hh,hr⟩
theorem aB6{w w':World}{base e sz n:Nat}{v:Value}{xs:List Value}(h:w.ownsRow base e sz v n xs)(hb:∀k,v.ownBlock=some k→w'.heap[k]?=w.heap[k]?):w'.ownsRow base e sz v n xs:=by
 refine⟨h.1,h.2.imp id ?_⟩
 rintro⟨g,cap,cur,rfl,hg,hh,hr⟩
 exact⟨g,cap,cur,rfl,hg,(hb g rfl).trans hh,hr⟩
theorem aAA{w:World}{t:Addr}{old:Value}(h:w.cell? t=some old):t.block<w.heap.size:=by
 rcases Nat.lt_or_ge t.block w.heap.size with h1| h1
 ·exact h1
 ·simp[World.cell?,Array.getElem?_eq_none h1] at h
def aEQ(t:T)(f:F):Bool:=isT f.of [105,110,116]&&!f.list&&!f.far&&!f.must&&!t.key.toList.isEmpty&&!(f.name.toList==t.key.toList)
def aDX(g:F):Bool:=!decide (0<(g.needs.length:Int))&&isT g.of [105,110,116]&&!g.list
def aD6(t:T)(f:F)(i:Nat):Bool:=decide (0≤aAC t (nth f.needs i))&&aDX (fth t.fields (aAC t (nth f.needs i)).toNat)&&(i==0||Op.bytesLess (nth f.needs (i- 1)).toList (nth f.needs i).toList)
def aFD(t:T)(f:F)(n:Nat):Bool:=(List.range n).all fun i=>aD6 t f i
theorem aGE(t:T)(f:F)(n:Nat):aFD t f (n+1)=(aFD t f n&&aD6 t f n):=by simp[aFD,List.range_succ]
theorem aM8(t:T)(f:F)(n k:Nat)(hk:k<n)(h:aD6 t f k=false):aFD t f n=false:=by
 rw[aFD,List.all_eq_false];exact⟨k,by simpa using hk,by simpa using h⟩
def aE1(t:T)(f:F):Bool:=(f.needs.isEmpty||aEQ t f)&&aFD t f f.needs.length
set_option maxHeartbeats 1600000 in
theorem aMD(t:T)(f:F)(w:World)(v u:Value)(B:Nat)(hR:TRep w (·<B) t v)(hF:FRep w (·<B) f u)(hB:B≤w.heap.size)(h0:f.needs=[]):
  Calls Tryz.prog 103 #[v,u] w fun e w'=>e=.returned (.bool (aE1 t f))∧Below w.heap.size w w':=by
 obtain⟨tn,key,fields⟩:=t
 obtain⟨fa,fc,rfl,hK,-⟩:=hR
 obtain⟨na,nc,rfl,-⟩:=hF
 obtain⟨name,of,l,m,fr,hi,sh,needs⟩:=f
 simp only at h0
 subst h0
 go_enter Tryz.func103,Tryz.ntmps103
 go_wp2_with fail
 go_loop [5,6] (fun i _=>i=.int .i64 0) (fun _ _=>0)
 case atStart=>rfl
 case round=>
  subst hrel
  go_wp2_with fail
  go_ret
  exact⟨aA4 (by simp[aE1,aFD]),aA5 _ _ _⟩
set_option maxHeartbeats 1600000 in
theorem aMW(t:T)(f:F)(w:World)(v u:Value)(B:Nat)(hR:TRep w (·<B) t v)(hF:FRep w (·<B) f u)(hB:B≤w.heap.size)(h0:0<f.needs.length)(hh:aEQ t f=false):
  Calls Tryz.prog 103 #[v,u] w fun e w'=>e=.returned (.bool (aE1 t f))∧Below w.heap.size w w':=by
 have hb:Hid (aE1 t f=false):=by
  show _=_
  have:f.needs.isEmpty=false:=by cases h:f.needs with
   |nil=>simp[h] at h0
   |cons a b=>rfl
  simp only[aE1,this,hh];rfl
 obtain⟨tn,key,fields⟩:=t
 obtain⟨fa,fc,rfl,hK,-⟩:=hR
 obtain⟨na,nc,rfl,-⟩:=hF
 obtain⟨name,of,l,m,fr,hi,sh,needs⟩:=f
 simp only at h0
 have h0':(0:Int)<(needs.length:Int):=by omega
 simp only[aEQ,isT] at hh
 cases h1:(of.toList==[105,110,116])
 case false=>
  clear hh
  go_enter Tryz.func103,Tryz.ntmps103
  go_wp2_with fail
  go_ret
  exact⟨aA4 hb.out.symm,aA5 _ _ _⟩
 cases l
 case true=>
  clear hh
  go_enter Tryz.func103,Tryz.ntmps103
  go_wp2_with fail
  go_ret
  exact⟨aA4 hb.out.symm,aA5 _ _ _⟩
 cases fr
 case true=>
  clear hh
  go_enter Tryz.func103,Tryz.ntmps103
  go_wp2_with fail
  go_ret
  exact⟨aA4 hb.out.symm,aA5 _ _ _⟩
 cases m
 case true=>
  clear hh
  go_enter Tryz.func103,Tryz.ntmps103
  go_wp2_with fail
  go_ret
  exact⟨aA4 hb.out.symm,aA5 _ _ _⟩
 cases h2:key.toList.isEmpty
 case true=>
  clear hh
  go_enter Tryz.func103,Tryz.ntmps103
  go_wp2_with fail
  go_ret
  exact⟨aA4 hb.out.symm,aA5 _ _ _⟩
 have h3:(name.toList==key.toList)=true:=by
  rw[h1,h2] at hh;simpa using hh
 clear hh
 go_enter Tryz.func103,Tryz.ntmps103
 go_wp2_with fail
 go_ret
 exact⟨aA4 hb.out.symm,aA5 _ _ _⟩
def orB(on:Bool)(x s:Int):Int:=if on then bits BinOp.or IntKind.u8 x s else x
theorem aU6(W:World)(N:Nat)(hN:W.heap.size=N)(x s:Int)(c1 c2 c3 c4 c5 c6 c7 c8:Value)(on:Bool):
  Calls Tryz.prog 167 #[.pointer (some ⟨N,0,none⟩),.int .u8 s,.bool on] (W.alloc (.cells #[.int .u8 x,c1,c2,c3,c4,c5,c6,c7,c8] 219)) fun e w'=>e=.returned (.tuple #[])∧W.alloc (.cells #[.int .u8 (orB on x s),c1,c2,c3,c4,c5,c6,c7,c8] 219)=w':=by
 subst hN
 cases on
 ·go_enter Tryz.func167,Tryz.ntmps167
  go_wp2_with fail
  refine bodyPost_end (v:=.tuple #[]) ?res rfl ⟨rfl,rfl⟩
  case res=>simp[results,Tryz.results167,go_sem]
 ·go_enter Tryz.func167,Tryz.ntmps167
  go_wp2_with fail
  refine bodyPost_end (v:=.tuple #[]) ?res rfl ⟨rfl,rfl⟩
  case res=>simp[results,Tryz.results167,go_sem]
def aCC(l m fr hi sh:Bool):Int:=orB sh (orB hi (orB fr (orB m (orB l 0 1) 2) 4) 8) 16
set_option maxHeartbeats 800000 in
theorem aBK(nm of:ByteArray)(l m fr hi sh:Bool)(na:Option Addr)(nl nc:Nat)(w:World):
  Calls Tryz.prog 139 #[.agg #[.string nm,.string of,.bool l,.bool m,.bool fr,.bool hi,.bool sh,.slice na nl nc]] w fun e w'=>e=.returned (.agg #[.int .u8 (aCC l m fr hi sh),.string nm,.string of,.bool l,.bool m,.bool fr,.bool hi,.bool sh,.slice na nl nc])∧Below w.heap.size w w':=by
 go_enter Tryz.func139,Tryz.ntmps139
 go_wp2_with (go_at_call 167;refine(aU6 _ _ (by simp) _ _ _ _ _ _ _ _ _ _ _).mono ?_;rintro e w' ⟨rfl,rfl⟩)
 refine bodyPost_ret (v:=.agg #[.int .u8 (aCC l m fr hi sh),.string nm,.string of,.bool l,.bool m,.bool fr,.bool hi,.bool sh,.slice na nl nc]) ?res rfl ⟨rfl,?_⟩
 case res=>simp[results,Tryz.results139,go_sem,aCC]
 exact(((Below.refl _ _).alloc (Nat.le_refl _) _).alloc (by simp) _).alloc (by simp;omega) _
def allB(x s:Int):Bool:=bits BinOp.and IntKind.u8 x s==s
def anyB(x s:Int):Bool:=bits BinOp.and IntKind.u8 x s !=0
theorem aD4(x s:Int)(w:World):Calls Tryz.prog 161 #[.int .u8 x,.int .u8 s] w fun e w'=>e=.returned (.bool (allB x s))∧w=w':=by
 go_enter Tryz.func161,Tryz.ntmps161
 go_wp2_with fail
 go_ret
 exact⟨rfl,rfl⟩
theorem aHG(x s:Int)(w:World):Calls Tryz.prog 174 #[.int .u8 x,.int .u8 s] w fun e w'=>e=.returned (.bool (anyB x s))∧w=w':=by
 go_enter Tryz.func174,Tryz.ntmps174
 go_wp2_with fail
 go_ret
 exact⟨rfl,rfl⟩
theorem aMQ(l m fr hi sh:Bool):allB (aCC l m fr hi sh) 2=m:=by cases l<;>cases m<;>cases fr<;>cases hi<;>cases sh<;>decide
theorem aQX(l m fr hi sh:Bool):allB (aCC l m fr hi sh) 1=l:=by cases l<;>cases m<;>cases fr<;>cases hi<;>cases sh<;>decide
theorem aT4(l m fr hi sh:Bool):allB (aCC l m fr hi sh) 4=fr:=by cases l<;>cases m<;>cases fr<;>cases hi<;>cases sh<;>decide
theorem aN5(l m fr hi sh:Bool):allB (aCC l m fr hi sh) 8=hi:=by cases l<;>cases m<;>cases fr<;>cases hi<;>cases sh<;>decide
theorem aN6(l m fr hi sh:Bool):allB (aCC l m fr hi sh) 16=sh:=by cases l<;>cases m<;>cases fr<;>cases hi<;>cases sh<;>decide
theorem aPF(l m fr hi sh:Bool):allB (aCC l m fr hi sh) 20=(fr&&sh):=by cases l<;>cases m<;>cases fr<;>cases hi<;>cases sh<;>decide
theorem aTN(l m fr hi sh:Bool):anyB (aCC l m fr hi sh) 13=(l||fr||hi):=by cases l<;>cases m<;>cases fr<;>cases hi<;>cases sh<;>decide
theorem aQP(l m fr hi sh:Bool):anyB (aCC l m fr hi sh) 1=l:=by cases l<;>cases m<;>cases fr<;>cases hi<;>cases sh<;>decide
theorem aRM(l m fr hi sh:Bool):anyB (aCC l m fr hi sh) 7=(l||fr||m):=by cases l<;>cases m<;>cases fr<;>cases hi<;>cases sh<;>decide
end Go.Proofs.YtcebpkeiaiiphaaGreatDoor
namespace Go.Proofs.YtcebpkeiaiiphaaGreatDoor
open Go.RowKit Go.Maps
def aG4(w:World)(xa:Option Addr)(m:Nat)(news:List Value):Prop:=0<m→∃ad,xa=some ad∧∀j u,news[j]?=some u→w.cell? (ad.add j)=some u
theorem aIP{P:Program}(w:World)(t ty e:TypeId)(i:TypeInfo)(ht:P.underlying t=some (.slice e))(hi:P.info? e=some i)(g n cap c:Nat)(hn:n≤cap):
  (Builtin.append_ #[t,t] ty #[.slice (some ⟨g,0,none⟩) n cap,.slice none 0 c]).run P w=.ok (.slice (some ⟨g,0,none⟩) n cap) w:=by
 simp[Builtin.append_,run_underlying ht,sizeOf,typeInfo,hi,Builtin.lenOf,Builtin.firstCells,hn,storeCells]
theorem aFW{P:Program}{w:World}(base:Nat)(t ty e:TypeId)(i:TypeInfo)(z:Value)(size bytes:Nat)(ht:P.underlying t=some (.slice e))(hi:P.info? e=some i)(hz:i.zero=some z)
  (hsize:i.size=size) (hby:i.bytes=bytes) (hzs:z.cells.size=size) (hsz:0<size)
  (g n cap:Nat) (xs:List Value) (hown:w.ownsRow base e size (.slice (some ⟨g,0,none⟩) n cap) n xs)
  (xa:Option Addr) (m c:Nat) (news:List Value) (hl:news.length=m*size) (hnews:aG4 w xa m news) (h1:∀u∈ news,u.oneCell'=true)
  (h63:n+m≤maxLen) (hbytes:(n+m)*bytes≤140737488355328) (hbase:base≤w.heap.size):
  ∃g' cap' w',(Builtin.append_ #[t,t] ty #[.slice (some ⟨g,0,none⟩) n cap,.slice xa m c]).run P w=.ok (.slice (some ⟨g',0,none⟩) (n+m) cap') w'∧w'.ownsRow base e size (.slice (some ⟨g',0,none⟩) (n+m) cap') (n+m) (xs++news)∧w.grownBy w' (some g)∧(g'=g∨g'=w.heap.size):=by
 have hnc:n≤cap:=by
  rcases hown.2 with⟨h',_⟩| ⟨g',cap',cur,h',_,_,hn,_⟩
  ·simp at h'
  ·simp only[Value.slice.injEq,true_and] at h'
   obtain⟨-,rfl⟩:=h'
   exact hn
 rcases xa with _| ad
 ·have hm:m=0:=by
   rcases Nat.eq_zero_or_pos m with h| h
   ·exact h
   ·obtain⟨ad,e,-⟩:=hnews h
    cases e
  subst hm
  have hnil:news=[]:=List.length_eq_zero_iff.1 (by simpa using hl)
  subst hnil
  exact⟨g,cap,w,aIP w t ty e i ht hi g n cap c hnc,by simpa using hown,⟨rfl,rfl,rfl,Nat.le_refl _,fun _ _ _=>rfl⟩,Or.inl rfl⟩
 ·have hn2:∀j u,news[j]?=some u→w.cell? (ad.add j)=some u:=fun j u hu=>by
   rcases Nat.eq_zero_or_pos m with h| h
   ·subst h
    have hnil:news=[]:=List.length_eq_zero_iff.1 (by simpa using hl)
    rw[hnil] at hu
    simp at hu
   ·obtain⟨ad',e,h2⟩:=hnews h
    cases e
    exact h2 j u hu
  obtain⟨v',w',hrun,h2,h3,-,h5⟩:=run_append_own_at (P:=P) w base t ty e i z size bytes ht hi hz hsize hby hzs hsz _ n xs hown ad m c news hl hn2 h1 h63 hbytes hbase
  rcases h2.2 with⟨h',_⟩| ⟨g',cap',cur,hv,-⟩
  ·rw[h'] at h5;simp[Value.ownBlock] at h5
  ·subst hv
   refine⟨g',cap',w',hrun,h2,h3,?_⟩
   simpa[Value.ownBlock] using h5
theorem aBW{P:Program}{w:World}{ops:Array Oper}{o:Oper}{a:Act}{K:Act→World→Prop}{Q:Exit→Act→World→Prop}{E:Prop}(hgd:o.guard=none)(s x:Operand)(t:TypeId)
  (ho:o.op=.call { callee:=.builtin .append,args:=#[s,x],argTypes:=#[t,t] })
  (base:Nat) (e:TypeId) (i:TypeInfo) (z:Value) (size bytes:Nat) (ht:P.underlying t=some (.slice e)) (hi:P.info? e=some i) (hz:i.zero=some z)
  (hsize:i.size=size) (hby:i.bytes=bytes) (hzs:z.cells.size=size) (hsz:0<size)
  (g n cap:Nat) (xs:List Value) (hs:a.eval s=.slice (some ⟨g,0,none⟩) n cap) (hown:w.ownsRow base e size (.slice (some ⟨g,0,none⟩) n cap) n xs)
  (xa:Option Addr) (m c:Nat) (news:List Value) (hx:a.eval x=.slice xa m c) (hl:news.length=m*size) (hnews:aG4 w xa m news) (h1:∀u∈ news,u.oneCell'=true)
  (h63:n+m≤maxLen) (hbytes:(n+m)*bytes≤140737488355328) (hbase:base≤w.heap.size)
  (h:∀g' cap' w',w'.ownsRow base e size (.slice (some ⟨g',0,none⟩) (n+m) cap') (n+m) (xs++news)→w.grownBy w' (some g)→(g'=g∨g'=w.heap.size)→K (a.put o.dst (.slice (some ⟨g',0,none⟩) (n+m) cap')) w'):
  if Region.wanted o (yielded ops a.tmps)=true then Oper.wp P o a w K Q else E:=by
 have hw:Region.wanted o (yielded ops a.tmps)=true:=by simp[Region.wanted,hgd]
 rw[if_pos hw]
 obtain⟨g',cap',w',hrun,h2,h3,h4⟩:=aFW (P:=P) (w:=w) base t o.type e i z size bytes ht hi hz hsize hby hzs hsz g n cap xs hown xa m c news hl hnews h1 h63 hbytes hbase
 unfold Oper.wp execOp
 simp only[ho,resolve,invoke,builtin,Sem.run_bind,Sem.run_pure,Result.andThen_ok,List.map_toArray,List.map_cons,List.map_nil,hs,hx,hrun]
 exact h g' cap' w' h2 h3 h4
theorem aCZ{P:Program}{w:World}{ops:Array Oper}{rest:List Oper}{o:Oper}{a:Act}{Q:Exit→Act→World→Prop}(hgd:o.guard=none)(s x:Operand)(t:TypeId)
  (ho:o.op=.call { callee:=.builtin .append,args:=#[s,x],argTypes:=#[t,t] })
  (base:Nat) (e:TypeId) (i:TypeInfo) (z:Value) (size bytes:Nat) (ht:P.underlying t=some (.slice e)) (hi:P.info? e=some i) (hz:i.zero=some z)
  (hsize:i.size=size) (hby:i.bytes=bytes) (hzs:z.cells.size=size) (hsz:0<size)
  (g n cap:Nat) (xs:List Value) (hs:a.eval s=.slice (some ⟨g,0,none⟩) n cap) (hown:w.ownsRow base e size (.slice (some ⟨g,0,none⟩) n cap) n xs)
  (xa:Option Addr) (m c:Nat) (news:List Value) (hx:a.eval x=.slice xa m c) (hl:news.length=m*size) (hnews:aG4 w xa m news) (h1:∀u∈ news,u.oneCell'=true)
  (h63:n+m≤maxLen) (hbytes:(n+m)*bytes≤140737488355328) (hbase:base≤w.heap.size)
  (h:∀g' cap' w',w'.ownsRow base e size (.slice (some ⟨g',0,none⟩) (n+m) cap') (n+m) (xs++news)→w.grownBy w' (some g)→(g'=g∨g'=w.heap.size)→wpList P ops Q rest (a.put o.dst (.slice (some ⟨g',0,none⟩) (n+m) cap')) w'):
  wpList P ops Q (o::rest) a w:=by
 obtain⟨g',cap',w',hrun,h2,h3,h4⟩:=aFW (P:=P) (w:=w) base t o.type e i z size bytes ht hi hz hsize hby hzs hsz g n cap xs hown xa m c news hl hnews h1 h63 hbytes hbase
 refine wpList_plain hgd fun K hK=>?_
 unfold Oper.wp
 simp[execOp,ho,resolve,invoke,builtin,hs,hx,hrun,Result.andThen]
 exact hK _ _ (h g' cap' w' h2 h3 h4)
def aCN(C:Nat→Nat→Value)(n:Nat):List Value:=(List.range (n*8)).map fun j=>C (j / 8) (j % 8)
theorem aD8(C:Nat→Nat→Value)(n:Nat):(aCN C n).length=n*8:=by simp[aCN]
theorem aLE(C:Nat→Nat→Value)(n i j:Nat)(hi:i<n)(hj:j<8):(aCN C n)[i*8+j]?=some (C i j):=by
 have h1:i*8+j<n*8:=by omega
 have h2:(i*8+j) / 8=i:=by omega
 have h3:(i*8+j) % 8=j:=by omega
 simp[aCN,h1,h2,h3]
theorem aLV{w:World}{P:Nat→Prop}{fs:List F}{C:Nat→Nat→Value}(hr:∀i,i<fs.length→FRep w P (fth fs i) (.agg #[C i 0,C i 1,C i 2,C i 3,C i 4,C i 5,C i 6,C i 7])):∀u∈ aCN C fs.length,u.oneCell'=true:=by
 intro u hu
 simp only[aCN,List.mem_map,List.mem_range] at hu
 obtain⟨j,hj,rfl⟩:=hu
 obtain⟨na,nc,e,-⟩:=hr (j / 8) (by omega)
 simp only[Value.agg.injEq,Array.mk.injEq,List.cons.injEq,and_true] at e
 obtain⟨e0,e1,e2,e3,e4,e5,e6,e7⟩:=e
 have hm:j % 8<8:=Nat.mod_lt _ (by omega)
 generalize j % 8=q at*
 rcases q with _| _| _| _| _| _| _| _| q
 ·simp only[e0];rfl
 ·simp only[Nat.zero_add,e1];rfl
 ·simp only[Nat.zero_add,Nat.reduceAdd,e2];rfl
 ·simp only[Nat.zero_add,Nat.reduceAdd,e3];rfl
 ·simp only[Nat.zero_add,Nat.reduceAdd,e4];rfl
 ·simp only[Nat.zero_add,Nat.reduceAdd,e5];rfl
 ·simp only[Nat.zero_add,Nat.reduceAdd,e6];rfl
 ·simp only[Nat.zero_add,Nat.reduceAdd,e7];rfl
 ·omega
theorem aKN{w:World}{P:Nat→Prop}{n:Nat}{a:Option Addr}{C:Nat→Nat→Value}(h:Arr w P 8 n a C):aG4 w a n (aCN C n):=fun hn=>by
 obtain⟨b,off,e,-,hc⟩:=h hn
 refine⟨_,e,fun j u hu=>?_⟩
 have hj:j<n*8:=by
  have:=(List.getElem?_eq_some_iff.1 hu).1
  rw[aD8] at this
  exact this
 have h1:=hc (j / 8) (by omega) (j % 8) (Nat.mod_lt _ (by omega))
 rw[Addr.add_lit]
 have e2:off+j / 8*8+j % 8=off+j:=by omega
 rw[e2] at h1
 rw[h1]
 have e3:(aCN C n)[j]?=some (C (j / 8) (j % 8)):=by simp[aCN,hj]
 rw[e3] at hu
 exact hu
theorem aJP{w:World}{P:Nat→Prop}{ns:List ByteArray}{a:Option Addr}(h:Strs w P ns a):aG4 w a ns.length (ns.map Value.string):=fun hn=>by
 obtain⟨b,off,e,-,hc⟩:=h.1 (List.length_pos_iff.1 hn)
 refine⟨_,e,fun j u hu=>?_⟩
 rw[List.getElem?_map] at hu
 obtain⟨s,hs,rfl⟩:=Option.map_eq_some_iff.1 hu
 obtain⟨hj,rfl⟩:=List.getElem?_eq_some_iff.1 hs
 rw[Addr.add_lit,hc j hj]
 simp[nth,List.getD_eq_getElem?_getD,hj]
theorem aFR(ns:List ByteArray):∀u∈ ns.map Value.string,u.oneCell'=true:=by
 intro u hu
 simp at hu
 obtain⟨x,-,rfl⟩:=hu
 rfl
theorem aHN{w:World}{base g n cap:Nat}{ns:List ByteArray}(h:w.ownsRow base 9 1 (.slice (some ⟨g,0,none⟩) ns.length cap) ns.length (ns.map Value.string))(hs:∀i,(nth ns i).size≤maxLen)(hl:ns.length≤maxLen):Strs w (fun b=>base≤b∧b<w.heap.size) ns (some ⟨g,0,none⟩):=
 ⟨fun _=>⟨g,0,rfl,h.lt g rfl,fun i hi=>by
  rw[Nat.zero_add,h.cellAt i (by omega),List.getElem?_map]
  simp[nth,List.getD_eq_getElem?_getD,hi]⟩,hs,hl⟩
end Go.Proofs.YtcebpkeiaiiphaaGreatDoor
