import Derived.Test.YtokmgbidmnanpaaGreatDoorQ18
import Derived.Test.YtokmgbidmnanpaaGreatDoorQ1
import Derived.Test.YtokmgbidmnanpaaGreatDoorQ22
import Derived.BigRegion
import Derived.Test.YtokmgbidmnanpaaGreatDoorQ14
import Derived.Test.YtokmgbidmnanpaaGreatDoorQ20
set_option linter.unusedSimpArgs false
set_option linter.unusedVariables false
namespace Go.Proofs.YtokmgbidmnanpaaGreatDoor
open Go.RowKit Go.Maps
end Go.Proofs.YtokmgbidmnanpaaGreatDoor
namespace Go.Proofs.YtokmgbidmnanpaaGreatDoor
open Go.RowKit Go.Maps
section
variable {w:World} {nm:ByteArray} {pbox:Array Value} {B:Bd} {wx wy:World} {σ:Sh} {xa:Option Addr} {i xc:Nat}
variable {tb:Nat} {tn tk:ByteArray} {fa:Option Addr} {k fc:Nat}
end
end Go.Proofs.YtokmgbidmnanpaaGreatDoor
namespace Go.Proofs.YtokmgbidmnanpaaGreatDoor
open Go.RowKit Go.Maps
attribute [local go_sem] Oper.semAt_some
end Go.Proofs.YtokmgbidmnanpaaGreatDoor
namespace Go.Proofs.YtokmgbidmnanpaaGreatDoor
open Go.RowKit Go.Maps
section
variable {w:World} {rb cb XB:Nat} {wx wy:World} {σ σ':Sh} {B B':Bd} {q q':Nat} {s:ByteArray} {tb len cap N:Nat} {cs:Array Value} {T:TypeId}
end
structure Laid(w w':World)(σ:Sh)(B:Bd)(s:ByteArray)(tb off len c' cap:Nat):Prop where
 wf:Wf w' σ B
 new:∀b T m,σ b=some (T,m)→w.heap.size≤b
 blk:σ tb=some (52,cap)
 inn:off+len≤cap
 few:len≤115
 le:len≤c'
 nn:B.nn≤2
 nf:B.nf≤121
 sm:s.size≤12
theorem Laid.keep{w w' w'':World}{σ:Sh}{B:Bd}{s:ByteArray}{tb off len c' cap:Nat}(h:Laid w w' σ B s tb off len c' cap)(hk:∀b,w.heap.size≤b→b<w'.heap.size→w''.heap[b]?=w'.heap[b]?):Laid w w'' σ B s tb off len c' cap:=
 ⟨h.wf.keep fun b T m hb=>hk b (h.new b T m hb) (h.wf.lt hb),h.new,h.blk,h.inn,h.few,h.le,h.nn,h.nf,h.sm⟩
theorem Laid.part{w w':World}{σ:Sh}{B:Bd}{s:ByteArray}{tb off len c' cap:Nat}(h:Laid w w' σ B s tb off len c' cap):
  ∃p:Pt,PRep w' (·<w'.heap.size) p (.agg #[.string s,.slice (some ⟨tb,off*3,none⟩) len c'])∧szP p≤900000:=by
 have hl:=h.few
 have hnn:=h.nn
 have hnf:=h.nf
 obtain⟨ts,hts,hP,-,hz,-⟩:=h.wf.types (off:=off) (len:=len) (c':=c') h.blk h.inn (by omega) h.le (by omega) (by omega) s h.sm
 refine⟨⟨s,ts⟩,hP,Nat.le_trans hz ?_⟩
 have h1:(25+13*B.nn)*B.nf≤51*121:=Nat.mul_le_mul (by omega) hnf
 have h2:(25+(25+13*B.nn)*B.nf)*len≤(25+51*121)*115:=Nat.mul_le_mul (by omega) hl
 omega
end Go.Proofs.YtokmgbidmnanpaaGreatDoor
namespace Go.Proofs.YtokmgbidmnanpaaGreatDoor
open Go.RowKit Go.Maps
set_option maxHeartbeats 800000 in
theorem aNS(n:Nat)(w:World)(h10:n<10):Calls Tryz.prog 88 #[.int .i64 n] w fun e w'=>∃s:ByteArray,e=.returned (.string s)∧s.size=1∧Below w.heap.size w w':=by
 have hn0:¬(n:Int)<0:=by omega
 have hn1:¬(n:Int)< -9223372036854775807:=by omega
 have hi10:(n:Int)<10:=by omega
 have hw8:IntKind.u8.wrap (48+(n:Int))=48+(n:Int):=by have:IntKind.u8.wrap (48+(n:Int))=(48+(n:Int)) % 256:=rfl;omega
 have hcv:=aGU (w.alloc (.cells #[.int .u8 (48+(n:Int))] 5)) w.heap.size (48+n) (by omega) (by simp[go_sem])
 generalize UInt8.ofNat (48+n)=dg at hcv
 go_enter Tryz.func88,Tryz.ntmps88
 go_wp2_with fail
 go_ret
 exact⟨_,rfl,rfl,aA2 w _⟩
structure Pv where
 s:ByteArray
 b:Nat
 len:Nat
 cap:Nat
def Pv.val(p:Pv):Value:=.agg #[.string p.s,.slice (some ⟨p.b,0,none⟩) p.len p.cap]
def aGC:List Pv→List Value
 |[]=>[]
 |p::r=>.string p.s:: .slice (some ⟨p.b,0,none⟩) p.len p.cap::aGC r
theorem aMU:∀ps:List Pv,(aGC ps).length=ps.length*2
 |[]=>rfl
 |p::r=>by simp only[aGC,List.length_cons,aMU r];omega
theorem aM5:∀(ps:List Pv) (p:Pv),aGC (ps++[p])=aGC ps++[.string p.s,.slice (some ⟨p.b,0,none⟩) p.len p.cap]
 |[],p=>rfl
 |q::r,p=>by simp only[List.cons_append,aGC,aM5 r p]
theorem aON:∀(ps:List Pv) (i:Nat) (h:i<ps.length),(aGC ps)[i*2]?=some (.string ps[i].s)∧(aGC ps)[i*2+1]?=some (.slice (some ⟨ps[i].b,0,none⟩) ps[i].len ps[i].cap)
 |p::r,0,_=>⟨rfl,rfl⟩
 |p::r,i+1,h=>by
  have:=aON r i (by simpa using h)
  rw[show(i+1)*2=i*2+1+1 by omega]
  simpa only[aGC,List.getElem?_cons_succ,List.getElem_cons_succ] using this
theorem aM7:∀(ps:List Pv) (i:Nat) (p:Pv),i<ps.length→((aGC ps).set (i*2) (.string p.s)).set (i*2+1) (.slice (some ⟨p.b,0,none⟩) p.len p.cap)=aGC (ps.set i p)
 |q::r,0,p,_=>rfl
 |q::r,i+1,p,h=>by
  have:=aM7 r i p (by simpa using h)
  rw[show(i+1)*2=i*2+1+1 by omega]
  simp only[aGC,List.set_cons_succ,this]
def PvOk(σ:Sh)(B:Bd)(p:Pv):Prop:=p.s.size≤12∧1≤p.len∧p.len≤B.nt∧p.len≤p.cap∧p.cap≤maxLen∧σ p.b=some (52,p.cap)
theorem PvOk.ext{σ σ':Sh}{B B':Bd}{p:Pv}(h:PvOk σ B p)(he:Ext σ σ')(hB:B.nt≤B'.nt):PvOk σ' B' p:=⟨h.1,h.2.1,by have:=h.2.2.1;omega,h.2.2.2.1,h.2.2.2.2.1,he _ _ _ h.2.2.2.2.2⟩
def bdP(c:Nat):Bd:=⟨1+2*c,7+2*c,1,true⟩
theorem aSO(c:Nat):((bdP c).more 2).le (bdP (c+1)):=⟨by simp only[bdP,Bd.more];omega,by simp only[bdP,Bd.more];omega,Nat.le_refl _,id⟩
structure PSt(w:World)(rb cb n:Nat)(wx:World)(σ:Sh)(c q pb pc:Nat)(ps:List Pv):Prop where
 rd:RdOk wx rb cb q
 wf:Wf wx σ (bdP c)
 new:∀b T m,σ b=some (T,m)→w.heap.size≤b
 own:wx.ownsRow w.heap.size 43 2 (.slice (some ⟨pb,0,none⟩) n pc) n (aGC ps)
 len:ps.length=n
 ok:∀p∈ ps,PvOk σ (bdP c) p
 npb:σ pb=none
 only:Only (·=rb) w wx
 rlt:rb<w.heap.size
 clt:cb<w.heap.size
theorem PSt.plt{w:World}{rb cb n:Nat}{wx:World}{σ:Sh}{c q pb pc:Nat}{ps:List Pv}(h:PSt w rb cb n wx σ c q pb pc ps):w.heap.size≤pb∧pb<wx.heap.size:=h.own.lt pb rfl
theorem PSt.move{w:World}{rb cb n:Nat}{wx wy:World}{σ:Sh}{c q q' pb pc:Nat}{ps:List Pv}(h:PSt w rb cb n wx σ c q pb pc ps)(hr:RdOk wy rb cb q')(ho:Only (·=rb) wx wy):PSt w rb cb n wy σ c q' pb pc ps:=by
 have hp:=h.plt
 have hk:∀x,x<wx.heap.size→x≠rb→wy.heap[x]?=wx.heap[x]?:=fun x hx hn=>ho.block x hx hn
 refine⟨hr,h.wf.keep fun b T m hb=>hk b (h.wf.lt hb) (by have:=h.new b T m hb;have:=h.rlt;omega),h.new,?_,h.len,h.ok,h.npb,h.only.trans ho fun _ _ q=>q,h.rlt,h.clt⟩
 refine⟨h.own.1,h.own.2.imp id ?_⟩
 rintro⟨g,cap,cur,e,hg,hh,hr⟩
 cases e
 exact⟨pb,pc,cur,rfl,hg,(hk pb hp.2 (by have:=h.rlt;omega)).trans hh,hr⟩
theorem PSt.below{w:World}{rb cb n:Nat}{wx wy:World}{σ:Sh}{c q pb pc:Nat}{ps:List Pv}(h:PSt w rb cb n wx σ c q pb pc ps)(hb:Below wx.heap.size wx wy):PSt w rb cb n wy σ c q pb pc ps:=
 h.move (h.rd.only (Only.of_below (fun _=>False) hb) id id) (Only.of_below _ hb)
theorem PSt.cells{w:World}{rb cb n:Nat}{wx:World}{σ:Sh}{c q pb pc:Nat}{ps:List Pv}(h:PSt w rb cb n wx σ c q pb pc ps)(i:Nat)(hi:i<n):∃p:Pv,PvOk σ (bdP c) p∧wx.cell? ⟨pb,i*2,none⟩=some (.string p.s)∧wx.cell? ⟨pb,i*2+1,none⟩=some (.slice (some ⟨p.b,0,none⟩) p.len p.cap)∧wx.frozen? ⟨pb,i*2,none⟩=false∧wx.frozen? ⟨pb,i*2+1,none⟩=false:=by
 have hl:i<ps.length:=by rw[h.len];exact hi
 have hf:=aON ps i hl
 have hc:=h.own.cells (g:=pb) rfl
 have h0:=hc _ _ hf.1
 have h1:=hc _ _ hf.2
 rw[Addr.add_lit,Nat.zero_add] at h0 h1
 have hfz:∀j,wx.frozen? ⟨pb,j,none⟩=false:=fun j=>by
  rcases h.own.2 with⟨e,-⟩| ⟨g,cap,cur,e,-,hh,-⟩
  ·cases e
  ·cases e;simp[World.frozen?,hh]
 exact⟨ps[i],h.ok _ (List.getElem_mem hl),h0,h1,hfz _,hfz _⟩
theorem PSt.give{w:World}{rb cb n:Nat}{wx wy:World}{σ σ':Sh}{c q pb pc i:Nat}{ps:List Pv}(h:PSt w rb cb n wx σ c q pb pc ps)(hi:i<n)(p:Pv)(hW:Wf wy σ' ((bdP c).more 2))(he:Ext σ σ')(hs:∀x,x<wx.heap.size→σ' x=σ x)(ho:Only (Hot σ) wx wy)(hp:PvOk σ' (bdP (c+1)) p):
  PSt w rb cb n ((wy.setCell ⟨pb,i*2,none⟩ (.string p.s)).setCell ⟨pb,i*2+1,none⟩ (.slice (some ⟨p.b,0,none⟩) p.len p.cap)) σ' (c+1) q pb pc (ps.set i p):=by
 have hpl:=h.plt
 have hz:=ho.size
 have hrl:=h.rlt
 have hcl:=h.clt
 have hwx:=h.only.size
 have nh:∀x,x<w.heap.size→¬Hot σ x:=fun x hx ⟨T,m,hT,_⟩=>by have:=h.new x T m hT;omega
 have nhp:¬Hot σ pb:=fun⟨T,m,hT,_⟩=>by rw[h.npb] at hT;cases hT
 have npb':σ' pb=none:=by rw[hs pb hpl.2];exact h.npb
 have hset:∀x,x≠pb→((wy.setCell ⟨pb,i*2,none⟩ (.string p.s)).setCell ⟨pb,i*2+1,none⟩ (.slice (some ⟨p.b,0,none⟩) p.len p.cap)).heap[x]?=wy.heap[x]?:=fun x hx=>by rw[Below.heap_setCell _ _ _ _ hx,Below.heap_setCell _ _ _ _ hx]
 have hsz:((wy.setCell ⟨pb,i*2,none⟩ (.string p.s)).setCell ⟨pb,i*2+1,none⟩ (.slice (some ⟨p.b,0,none⟩) p.len p.cap)).heap.size=wy.heap.size:=by rw[aAZ,aAZ]
 have hold:∀x,x<w.heap.size→((wy.setCell ⟨pb,i*2,none⟩ (.string p.s)).setCell ⟨pb,i*2+1,none⟩ (.slice (some ⟨p.b,0,none⟩) p.len p.cap)).heap[x]?=wx.heap[x]?:=fun x hx=>by rw[hset x (by omega),ho.block x (by omega) (nh x hx)]
 refine⟨h.rd.keep (hold rb hrl) (hold cb hcl) (by rw[hsz];exact hz),(hW.le (aSO c)).keep fun b T m hb=>hset b (fun e=>by subst e;rw[npb'] at hb;cases hb),fun b T m hb=>?_,?_,by rw[List.length_set];exact h.len,fun x hx=>?_,npb',?_,hrl,hcl⟩
 ·rcases Nat.lt_or_ge b wx.heap.size with hlt| hge
  ·rw[hs b hlt] at hb;exact h.new b T m hb
  ·omega
 ·refine⟨by rw[aMU,List.length_set,h.len],?_⟩
  rcases h.own.2 with⟨e,-⟩| ⟨g,cap,cur,e,hg,hh,h1,h2,h3,h4⟩
  ·cases e
  ·cases e
   have hy:wy.heap[pb]?=some (.cells cur 43 (0,0)):=(ho.block pb hpl.2 nhp).trans hh
   refine Or.inr ⟨pb,pc,_,rfl,hg,aA9 (aA9 hy _ _) _ _,h1,h2,by simpa using h3,?_⟩
   rw[Array.toList_setIfInBounds,Array.toList_setIfInBounds,List.take_set,List.take_set,h4]
   exact aM7 ps i p (by rw[h.len];exact hi)
 ·rcases List.mem_or_eq_of_mem_set hx with hx| rfl
  ·exact(h.ok x hx).ext he (by simp only[bdP];omega)
  ·exact hp
 ·exact⟨ho.os.trans h.only.os,ho.tape.trans h.only.tape,ho.output.trans h.only.output,by rw[hsz];omega,fun b hb hn=>(hold b hb).trans (h.only.block b hb hn)⟩
end Go.Proofs.YtokmgbidmnanpaaGreatDoor
namespace Go.Proofs.YtokmgbidmnanpaaGreatDoor
open Go.RowKit
theorem aPB(fs:List F)(i j:Nat)(h:j<i):fth (fs.take i) j=fth fs j:=by
 simp[fth,List.getD_eq_getElem?_getD,List.getElem?_take,h]
theorem aC6.take{w:World}{P:Nat→Prop}{fs:List F}{fa:Option Addr}(h:aC6 w P fs fa)(i:Nat)(hi:i≤fs.length):aC6 w P (fs.take i) fa:=by
 obtain⟨h0,C,h1,h2⟩:=h
 have hl:(fs.take i).length=i:=by simp;omega
 refine⟨by rw[hl];omega,C,fun hp=>?_,fun j hj=>?_⟩
 ·obtain⟨b,off,e,hb,hc⟩:=h1 (by omega)
  exact⟨b,off,e,hb,fun j hj=>hc j (by omega)⟩
 ·rw[aPB fs i j (by omega)]
  exact h2 j (by omega)
theorem aL6{p q:Nat→Bool}(n:Nat)(h:∀i,i<n→p i=q i):aAI p n=aAI q n:=by
 rcases aAB p n with⟨e,hp⟩| ⟨k,e,hk,hpk,hp⟩
 ·rw[e,aC5 fun i hi=>by rw[←h i hi];exact hp i hi]
 ·rw[e,aC0 (fun i hi=>by rw[←h i (by omega)];exact hp i hi) (by rw[←h k hk];exact hpk) hk]
def aPL(t:T)(i:Nat):Bool:=!decide (0≤aAI (fun j=>(fth t.fields j).name.toList==(fth t.fields i).name.toList) i)
def aDI(t:T)(n:Nat):Bool:=(List.range n).all fun i=>aPL t i
theorem aI2(t:T)(n:Nat):aDI t (n+1)=(aDI t n&&aPL t n):=by simp[aDI,List.range_succ]
def aDK(types:List T)(place:Nat)(t:T):Bool:=decide (0≤aAI (fun i=>(tth types i).name.toList==t.name.toList) place)||!aDI t t.fields.length
set_option maxHeartbeats 1600000 in
theorem aJC(types:List T)(place:Nat)(t:T)(w:World)(B:Nat)(ta:Option Addr)(tc:Nat)(u:Value)(hT:aEO w (·<B) types ta)(hpl:place≤types.length)(hR:TRep w (·<B) t u)(hB:B≤w.heap.size):
  Calls Tryz.prog 138 #[.slice ta place tc,u] w fun e w'=>e=.returned (.bool (aDK types place t))∧Below w.heap.size w w':=by
 obtain⟨name,key,fields⟩:=t
 obtain⟨fa,fc,rfl,hK,hnc,hn,ho⟩:=hR
 simp only at hK hnc hn ho
 have h3:=hK.1
 have h4:=hT.1
 go_enter Tryz.func138,Tryz.ntmps138
 go_wp2_with fail
 go_loopw [13] (fun i wr=>∃k:Nat,k≤place∧i=.int .i64 k∧Below (w.heap.size+1) (w.alloc (.cells #[.string name,.string key,.slice fa fields.length fc] 52)) wr∧∀j,j<k→((tth types j).name.toList==name.toList)=false) (fun i _=>place- (intOf i).toNat)
 case atStart=>exact⟨0,Nat.zero_le _,rfl,Below.refl _ _,fun j hj=>by omega⟩
 case round=>
  obtain⟨k,hk,rfl,hbel,hp⟩:=hrel
  have HP:Hid (∀j,j<k→((tth types j).name.toList==name.toList)=false):=hp
  clear hp
  have hz:=hbel.size
  simp at hz
  have hbw:Below w.heap.size w wr:=(aA2 w _).trans (hbel.mono (by omega))
  have hcell:∀W,Below (w.heap.size+1) (w.alloc (.cells #[.string name,.string key,.slice fa fields.length fc] 52)) W→W.cell? ⟨w.heap.size,0,none⟩=some (.string name)∧W.cell? ⟨w.heap.size,2,none⟩=some (.slice fa fields.length fc):=fun W h=>
   ⟨(h.cell (p:=⟨w.heap.size,0,none⟩) (by show w.heap.size<_;omega)).trans (aBQ _ _ 0 (by simp)),(h.cell (p:=⟨w.heap.size,2,none⟩) (by show w.heap.size<_;omega)).trans (aBQ _ _ 2 (by simp))⟩
  by_cases hlt:k<place
  ·obtain⟨b,off,fa2,fc2,rfl,-,hcs⟩:=hT.at hB k (by omega)
   obtain⟨c0,c1,c2⟩:=hcs wr hbw
   have q0:=fun o=>(hcell (wr.alloc o) (hbel.alloc (by omega) o)).1
   clear hcs
   cases x1:((tth types k).name.toList==name.toList)
   ·go_wp2_with fail
    go_roundw
    case rel=>exact⟨k+1,by omega,by go_num,hbel.alloc (by omega) _,aJ5 HP.out x1⟩
    case measure=>simp[intOf];omega
   ·have hres:Hid (aDK types place ⟨name,key,fields⟩=true):=by
     show _=_
     rw[aDK,aC0 HP.out x1 hlt,decide_eq_true (by omega)];rfl
    go_wp2_with fail
    go_ret
    exact⟨aA4 hres.out.symm,hbw.alloc (by omega) _⟩
  ·have HT:Hid (aDK types place ⟨name,key,fields⟩=!aDI ⟨name,key,fields⟩ fields.length):=by
    show _=_
    have e:k=place:=by omega
    rw[aDK,aC5 (e▸HP.out)];rfl
   clear HP
   obtain⟨q0,q2⟩:=hcell wr hbel
   go_wp2_with fail
   go_loopw [26] (fun i w2=>∃k:Nat,k≤fields.length∧i=.int .i64 k∧Below (w.heap.size+1) (w.alloc (.cells #[.string name,.string key,.slice fa fields.length fc] 52)) w2∧w.heap.size<w2.heap.size∧aDI ⟨name,key,fields⟩ k=true) (fun i _=>fields.length- (intOf i).toNat)
   case atStart=>exact⟨0,Nat.zero_le _,rfl,hbel,by omega,rfl⟩
   case round=>
    clear q0 q2 hbw hbel hz hlt hk
    rename_i wr
    obtain⟨k,hk,rfl,hbel,hz,hp⟩:=hrel
    have HP:Hid (aDI ⟨name,key,fields⟩ k=true):=hp
    clear hp
    have hbw:Below w.heap.size w wr:=(aA2 w _).trans (hbel.mono (by omega))
    by_cases hlt:k<fields.length
    ·obtain⟨b,off,na,nc,rfl,-,hcs⟩:=hK.at hB k hlt
     obtain⟨c0,c1,c2,c3,c4,c5,c6,c7⟩:=hcs wr hbw
     have q2:=fun o=>(hcell (wr.alloc o) (hbel.alloc (by omega) o)).2
     have hTR:∀W,Below w.heap.size w W→TRep W (·<B) ⟨ByteArray.empty,ByteArray.empty,fields.take k⟩ (.agg #[.string ByteArray.empty,.string ByteArray.empty,.slice (some ⟨b,off,none⟩) k fc]):=fun W hb=>
      ⟨some ⟨b,off,none⟩,fc,by simp;omega,((hK.take k (by omega)).under (hb.mono hB)),by simp;omega,by simp[maxLen],by simp[maxLen]⟩
     have hix:aAC ⟨ByteArray.empty,ByteArray.empty,fields.take k⟩ (fth fields k).name=aAI (fun j=>(fth fields j).name.toList==(fth fields k).name.toList) k:=by
      show aAI (fun i=>(fth (fields.take k) i).name.toList==(fth fields k).name.toList) (fields.take k).length=_
      rw[show(fields.take k).length=k by simp;omega]
      exact aL6 k fun i hi=>by rw[aPB fields k i hi]
     have hff:=fun W (hb:Below w.heap.size w W)=>aDO ⟨ByteArray.empty,ByteArray.empty,fields.take k⟩ W B _ (fth fields k).name (hTR W hb) (by have:=hb.size;omega)
     rw[hix] at hff
     have HO:Hid (aPL ⟨name,key,fields⟩ k=!decide (0≤aAI (fun j=>(fth fields j).name.toList==(fth fields k).name.toList) k)):=rfl
     clear hcs hix hTR
     have hki:(k:Int)≤(fields.length:Int):=by omega
     have hkf:(k:Int)≤(fc:Int):=by omega
     have hW1:Below w.heap.size w (wr.alloc (.cells #[.string (fth fields k).name,.string (fth fields k).of,.bool (fth fields k).list,.bool (fth fields k).must,.bool (fth fields k).far,.bool (fth fields k).hidden,.bool (fth fields k).shared,.slice na (fth fields k).needs.length nc] 54)):=hbw.alloc (by omega) _
     have hW2:Below w.heap.size w ((wr.alloc (.cells #[.string (fth fields k).name,.string (fth fields k).of,.bool (fth fields k).list,.bool (fth fields k).must,.bool (fth fields k).far,.bool (fth fields k).hidden,.bool (fth fields k).shared,.slice na (fth fields k).needs.length nc] 54)).alloc (.cells #[.string ByteArray.empty,.string ByteArray.empty,.bool false,.bool false,.bool false,.bool false,.bool false,.slice none 0 0] 54)):=hW1.alloc (by simp;omega) _
     cases x1:decide (0≤aAI (fun j=>(fth fields j).name.toList==(fth fields k).name.toList) k)
     ·rw[x1] at hff
      go_wp2_with fail
      go_region_held3 (fun w'=>w'.cell? ⟨w.heap.size,2,none⟩=some (.slice (some ⟨b,off,none⟩) fields.length fc)∧w'.cell? ⟨wr.heap.size,0,none⟩=some (.string (fth fields k).name)) (go_keep)
       (first
        |(
         go_at_call 111
         first
          |(
           refine(hff (wr.alloc (.cells #[.string (fth fields k).name,.string (fth fields k).of,.bool (fth fields k).list,.bool (fth fields k).must,.bool (fth fields k).far,.bool (fth fields k).hidden,.bool (fth fields k).shared,.slice na (fth fields k).needs.length nc] 54)).drew hW1.drew).mono ?_
           rintro e w1 ⟨nm,of,l,m,fr,hi,sh,na3,nl3,nc3,rfl,hb1,-⟩
           have hu:=aA6 hb1
           have z1:=hu.size
           simp at z1
           have g2:=(hcell w1 ((hbel.alloc (by omega) _).trans (hu.mono (by simp;omega)))).2
           have g0:w1.cell? ⟨wr.heap.size,0,none⟩=some (.string (fth fields k).name):=(hu.cell (p:=⟨wr.heap.size,0,none⟩) (by show wr.heap.size<_;simp)).trans (aBQ _ _ 0 (by simp))
           have n1:w.heap.size≠w1.heap.size:=by omega
           have n2:wr.heap.size≠w1.heap.size:=by omega
           have hfin:Below (w.heap.size+1) (w.alloc (.cells #[.string name,.string key,.slice (some ⟨b,off,none⟩) fields.length fc] 52)) w1:=(hbel.alloc (by omega) _).trans (hu.mono (by simp;omega))
           have hend:∀W,(∃o,W=w1.alloc o)→Below (w.heap.size+1) (w.alloc (.cells #[.string name,.string key,.slice (some ⟨b,off,none⟩) fields.length fc] 52)) W∧w.heap.size<W.heap.size:=fun W ⟨o,e⟩=>by subst e;exact⟨hfin.alloc (by omega) _,by simp;omega⟩)
          |(
           refine(hff ((wr.alloc (.cells #[.string (fth fields k).name,.string (fth fields k).of,.bool (fth fields k).list,.bool (fth fields k).must,.bool (fth fields k).far,.bool (fth fields k).hidden,.bool (fth fields k).shared,.slice na (fth fields k).needs.length nc] 54)).alloc (.cells #[.string ByteArray.empty,.string ByteArray.empty,.bool false,.bool false,.bool false,.bool false,.bool false,.slice none 0 0] 54)).drew hW2.drew).mono ?_
           rintro e w1 ⟨nm,of,l,m,fr,hi,sh,na3,nl3,nc3,rfl,hb1,-⟩
           have hu:=aA6 hb1
           have z1:=hu.size
           simp at z1
           have g2:=(hcell w1 (((hbel.alloc (by omega) _).alloc (by simp;omega) _).trans (hu.mono (by simp;omega)))).2
           have g0:w1.cell? ⟨wr.heap.size,0,none⟩=some (.string (fth fields k).name):=(hu.cell (p:=⟨wr.heap.size,0,none⟩) (by show wr.heap.size<_;simp;omega)).trans (((aA2 _ _).cell (p:=⟨wr.heap.size,0,none⟩) (by show wr.heap.size<_;simp)).trans (aBQ _ _ 0 (by simp)))
           have hzr:w1.heap[wr.heap.size+1]?=some (.cells #[.string ByteArray.empty,.string ByteArray.empty,.bool false,.bool false,.bool false,.bool false,.bool false,.slice none 0 0] 54 (0,0)):=(hu.block (wr.heap.size+1) (by simp)).trans (by have:=heap_alloc_new (wr.alloc (.cells #[.string (fth fields k).name,.string (fth fields k).of,.bool (fth fields k).list,.bool (fth fields k).must,.bool (fth fields k).far,.bool (fth fields k).hidden,.bool (fth fields k).shared,.slice na (fth fields k).needs.length nc] 54)) (.cells #[.string ByteArray.empty,.string ByteArray.empty,.bool false,.bool false,.bool false,.bool false,.bool false,.slice none 0 0] 54);simpa using this)
           have y0:=(aA1 hzr 0 (by simp)).1
           have y1:=(aA1 hzr 1 (by simp)).1
           have y2:=(aA1 hzr 2 (by simp)).1
           have y3:=(aA1 hzr 3 (by simp)).1
           have y4:=(aA1 hzr 4 (by simp)).1
           have y5:=(aA1 hzr 5 (by simp)).1
           have y6:=(aA1 hzr 6 (by simp)).1
           have y7:=(aA1 hzr 7 (by simp)).1
           have yf:∀i,w1.frozen? ⟨wr.heap.size+1,i,none⟩=false:=fun i=>frozen_of_row w1 _ i _ _ hzr
           have n1:w.heap.size≠wr.heap.size+1:=by omega
           have n3:wr.heap.size+1≠w.heap.size:=by omega
           have n4:wr.heap.size+1≠wr.heap.size:=by omega
           have n2:wr.heap.size≠wr.heap.size+1:=by omega
           have hfin:Below (w.heap.size+1) (w.alloc (.cells #[.string name,.string key,.slice (some ⟨b,off,none⟩) fields.length fc] 52)) w1:=((hbel.alloc (by omega) _).alloc (by simp;omega) _).trans (hu.mono (by simp;omega))
           have hend:∀W,(∃c0 c1 c2 c3 c4 c5 c6 c7,W=((((((((w1.setCell ⟨wr.heap.size+1,0,none⟩ c0).setCell ⟨wr.heap.size+1,1,none⟩ c1).setCell ⟨wr.heap.size+1,2,none⟩ c2).setCell ⟨wr.heap.size+1,3,none⟩ c3).setCell ⟨wr.heap.size+1,4,none⟩ c4).setCell ⟨wr.heap.size+1,5,none⟩ c5).setCell ⟨wr.heap.size+1,6,none⟩ c6).setCell ⟨wr.heap.size+1,7,none⟩ c7))→Below (w.heap.size+1) (w.alloc (.cells #[.string name,.string key,.slice (some ⟨b,off,none⟩) fields.length fc] 52)) W∧w.heap.size<W.heap.size:=fun W ⟨c0,c1,c2,c3,c4,c5,c6,c7,e⟩=>by subst e;exact⟨((((((((hfin).setCell (by show _≤wr.heap.size+1;omega) _).setCell (by show _≤wr.heap.size+1;omega) _).setCell (by show _≤wr.heap.size+1;omega) _).setCell (by show _≤wr.heap.size+1;omega) _).setCell (by show _≤wr.heap.size+1;omega) _).setCell (by show _≤wr.heap.size+1;omega) _).setCell (by show _≤wr.heap.size+1;omega) _).setCell (by show _≤wr.heap.size+1;omega) _,by simp only[aAZ];omega⟩)))
      all_goals
       go_wp2_with fail
       go_roundw
       case rel=>
        refine⟨k+1,by omega,by go_num,(hend _ ?_).1,(hend _ ?_).2,by rw[aI2,HP.out,HO.out,x1];rfl⟩
        all_goals first| exact⟨_,rfl⟩| exact⟨_,_,_,_,_,_,_,_,rfl⟩
       case measure=>simp[intOf];omega
     ·rw[x1] at hff
      have hres:Hid (aDK types place ⟨name,key,fields⟩=true):=by
       show _=_
       rw[HT.out,show aDI ⟨name,key,fields⟩ fields.length=false from aBF (k:=k) hlt (by rw[HO.out,x1];rfl)];rfl
      go_wp2_with fail
      go_region_held3 (fun w'=>w'.cell? ⟨w.heap.size,2,none⟩=some (.slice (some ⟨b,off,none⟩) fields.length fc)∧w'.cell? ⟨wr.heap.size,0,none⟩=some (.string (fth fields k).name)) (go_keep)
       (first
        |(
         go_at_call 111
         first
          |(
           refine(hff (wr.alloc (.cells #[.string (fth fields k).name,.string (fth fields k).of,.bool (fth fields k).list,.bool (fth fields k).must,.bool (fth fields k).far,.bool (fth fields k).hidden,.bool (fth fields k).shared,.slice na (fth fields k).needs.length nc] 54)).drew hW1.drew).mono ?_
           rintro e w1 ⟨nm,of,l,m,fr,hi,sh,na3,nl3,nc3,rfl,hb1,-⟩
           have hu:=aA6 hb1
           have z1:=hu.size
           simp at z1
           have g2:=(hcell w1 ((hbel.alloc (by omega) _).trans (hu.mono (by simp;omega)))).2
           have g0:w1.cell? ⟨wr.heap.size,0,none⟩=some (.string (fth fields k).name):=(hu.cell (p:=⟨wr.heap.size,0,none⟩) (by show wr.heap.size<_;simp)).trans (aBQ _ _ 0 (by simp))
           have n1:w.heap.size≠w1.heap.size:=by omega
           have n2:wr.heap.size≠w1.heap.size:=by omega
           have hfin:Below (w.heap.size+1) (w.alloc (.cells #[.string name,.string key,.slice (some ⟨b,off,none⟩) fields.length fc] 52)) w1:=(hbel.alloc (by omega) _).trans (hu.mono (by simp;omega))
           have hend:∀W,(∃o,W=w1.alloc o)→Below (w.heap.size+1) (w.alloc (.cells #[.string name,.string key,.slice (some ⟨b,off,none⟩) fields.length fc] 52)) W∧w.heap.size<W.heap.size:=fun W ⟨o,e⟩=>by subst e;exact⟨hfin.alloc (by omega) _,by simp;omega⟩)
          |(
           refine(hff ((wr.alloc (.cells #[.string (fth fields k).name,.string (fth fields k).of,.bool (fth fields k).list,.bool (fth fields k).must,.bool (fth fields k).far,.bool (fth fields k).hidden,.bool (fth fields k).shared,.slice na (fth fields k).needs.length nc] 54)).alloc (.cells #[.string ByteArray.empty,.string ByteArray.empty,.bool false,.bool false,.bool false,.bool false,.bool false,.slice none 0 0] 54)).drew hW2.drew).mono ?_
           rintro e w1 ⟨nm,of,l,m,fr,hi,sh,na3,nl3,nc3,rfl,hb1,-⟩
           have hu:=aA6 hb1
           have z1:=hu.size
           simp at z1
           have g2:=(hcell w1 (((hbel.alloc (by omega) _).alloc (by simp;omega) _).trans (hu.mono (by simp;omega)))).2
           have g0:w1.cell? ⟨wr.heap.size,0,none⟩=some (.string (fth fields k).name):=(hu.cell (p:=⟨wr.heap.size,0,none⟩) (by show wr.heap.size<_;simp;omega)).trans (((aA2 _ _).cell (p:=⟨wr.heap.size,0,none⟩) (by show wr.heap.size<_;simp)).trans (aBQ _ _ 0 (by simp)))
           have hzr:w1.heap[wr.heap.size+1]?=some (.cells #[.string ByteArray.empty,.string ByteArray.empty,.bool false,.bool false,.bool false,.bool false,.bool false,.slice none 0 0] 54 (0,0)):=(hu.block (wr.heap.size+1) (by simp)).trans (by have:=heap_alloc_new (wr.alloc (.cells #[.string (fth fields k).name,.string (fth fields k).of,.bool (fth fields k).list,.bool (fth fields k).must,.bool (fth fields k).far,.bool (fth fields k).hidden,.bool (fth fields k).shared,.slice na (fth fields k).needs.length nc] 54)) (.cells #[.string ByteArray.empty,.string ByteArray.empty,.bool false,.bool false,.bool false,.bool false,.bool false,.slice none 0 0] 54);simpa using this)
           have y0:=(aA1 hzr 0 (by simp)).1
           have y1:=(aA1 hzr 1 (by simp)).1
           have y2:=(aA1 hzr 2 (by simp)).1
           have y3:=(aA1 hzr 3 (by simp)).1
           have y4:=(aA1 hzr 4 (by simp)).1
           have y5:=(aA1 hzr 5 (by simp)).1
           have y6:=(aA1 hzr 6 (by simp)).1
           have y7:=(aA1 hzr 7 (by simp)).1
           have yf:∀i,w1.frozen? ⟨wr.heap.size+1,i,none⟩=false:=fun i=>frozen_of_row w1 _ i _ _ hzr
           have n1:w.heap.size≠wr.heap.size+1:=by omega
           have n3:wr.heap.size+1≠w.heap.size:=by omega
           have n4:wr.heap.size+1≠wr.heap.size:=by omega
           have n2:wr.heap.size≠wr.heap.size+1:=by omega
           have hfin:Below (w.heap.size+1) (w.alloc (.cells #[.string name,.string key,.slice (some ⟨b,off,none⟩) fields.length fc] 52)) w1:=((hbel.alloc (by omega) _).alloc (by simp;omega) _).trans (hu.mono (by simp;omega))
           have hend:∀W,(∃c0 c1 c2 c3 c4 c5 c6 c7,W=((((((((w1.setCell ⟨wr.heap.size+1,0,none⟩ c0).setCell ⟨wr.heap.size+1,1,none⟩ c1).setCell ⟨wr.heap.size+1,2,none⟩ c2).setCell ⟨wr.heap.size+1,3,none⟩ c3).setCell ⟨wr.heap.size+1,4,none⟩ c4).setCell ⟨wr.heap.size+1,5,none⟩ c5).setCell ⟨wr.heap.size+1,6,none⟩ c6).setCell ⟨wr.heap.size+1,7,none⟩ c7))→Below (w.heap.size+1) (w.alloc (.cells #[.string name,.string key,.slice (some ⟨b,off,none⟩) fields.length fc] 52)) W∧w.heap.size<W.heap.size:=fun W ⟨c0,c1,c2,c3,c4,c5,c6,c7,e⟩=>by subst e;exact⟨((((((((hfin).setCell (by show _≤wr.heap.size+1;omega) _).setCell (by show _≤wr.heap.size+1;omega) _).setCell (by show _≤wr.heap.size+1;omega) _).setCell (by show _≤wr.heap.size+1;omega) _).setCell (by show _≤wr.heap.size+1;omega) _).setCell (by show _≤wr.heap.size+1;omega) _).setCell (by show _≤wr.heap.size+1;omega) _).setCell (by show _≤wr.heap.size+1;omega) _,by simp only[aAZ];omega⟩)))
      all_goals
       go_wp2_with fail
       go_ret
       refine⟨aA4 hres.out.symm,(aA2 w _).trans ((hend _ ?_).1.mono (by omega))⟩
       all_goals first| exact⟨_,rfl⟩| exact⟨_,_,_,_,_,_,_,_,rfl⟩
    ·go_wp2_with fail
     go_ret
     have e:k=fields.length:=by omega
     exact⟨aA4 (by rw[HT.out,←e,HP.out];rfl),hbw⟩
end Go.Proofs.YtokmgbidmnanpaaGreatDoor
namespace Go.Proofs.YtokmgbidmnanpaaGreatDoor
open Go.RowKit
def aDH(f:Nat)(ks:List Se):Bool:=askB f ks&&decide ((txtL f ks).length≤400)
theorem FitS.ex{w:World}{P:Nat→Prop}{ks:List Se}{a:Option Addr}(h:aAA w P ks a):∃f,FitS f ks:=by
 obtain⟨-,C,-,hr⟩:=h
 obtain⟨g,hg⟩:=aL9 ks.length hr
 cases g with
 |zero=>
  cases ks with
  |nil=>exact⟨0,rfl⟩
  |cons a l=>exact(hg 0 (by simp)).elim
 |succ g=>exact⟨g+1,fun i hi=>FitS.of_rep (hg i hi)⟩
theorem aU1{f:Nat}{ks:List Se}{x:Int}(h:L3P f 1 ks 24 x)(h0:0<ks.length):askB f ks=decide (0≤x):=by
 obtain⟨h1,-,-,-⟩:=h
 rw[Bool.eq_iff_iff,decide_eq_true_eq,h1,askB,Bool.and_eq_true,Bool.and_eq_true,decide_eq_true_eq]
 have hne:ks.isEmpty=false:=by cases ks with
  |nil=>simp at h0
  |cons a l=>rfl
 rw[hne]
 simp
 omega
set_option maxRecDepth 20000 in
set_option maxHeartbeats 1600000 in
theorem aKB(f:Nat)(ks:List Se)(w:World)(B:Nat)(ka:Option Addr)(kc:Nat)(hf:FitS f ks)(hR:aAA w (·<B) ks ka)(hB:B≤w.heap.size):
  Calls Tryz.prog 15 #[.slice ka ks.length kc] w fun e w'=>e=.returned (.bool (aDH f ks))∧Below w.heap.size w w':=by
 have hL:=fun W (hW:Below w.heap.size w W)=>aT9 f 1 ks W B ka kc 24 hf (hR.under (hW.mono hB)) (by have:=hW.size;omega) (by omega) (by omega) (by omega)
 have hWr:=fun W (hW:Below w.heap.size w W) h1 h2=>aNR f 1 ks W B ka kc hf (hR.under (hW.mono hB)) (by have:=hW.size;omega) h1 h2
 have HL:=aA0 hL
 have HWr:=aA0 hWr
 clear hL hWr
 by_cases h0:0<ks.length
 case neg=>
  have e:ks=[]:=List.length_eq_zero_iff.1 (by omega)
  subst e
  have HE:Hid (aDH f []=false):=aA0 (by simp[aDH,askB])
  go_enter Tryz.func15,Tryz.ntmps15
  go_wp2_with fail
  go_ret
  exact⟨aA4 (by rw[HE.out]),Below.refl _ _⟩
 have hl0:(0:Int)<(ks.length:Int):=by omega
 have h48:=hR.1
 go_enter Tryz.func15,Tryz.ntmps15
 go_wp2_with fail
 refine(HL.out w (Below.refl _ _)).mono ?_
 rintro e w1 ⟨⟨x,rfl,hP⟩,hb1⟩
 have HB:=aA0 (aU1 hP h0)
 have HP:=aA0 hP
 clear hP
 by_cases hx:0≤x
 case neg=>
  have hx':¬x≥ 0:=by omega
  have HE:Hid (aDH f ks=false):=aA0 (by rw[aDH,HB.out];simp[hx])
  go_wp2_with fail
  go_ret
  exact⟨aA4 (by rw[HE.out]),hb1⟩
 have hx':x≥ 0:=hx
 obtain⟨-,q2,q3⟩:=HP.out.1.1 hx
 have HW:=aA0 (HWr.out w1 hb1 q2 (by omega))
 go_wp2_with fail
 refine HW.out.mono ?_
 rintro e w2 ⟨⟨t,rfl,ht,htz⟩,hb2⟩
 have bw2:=hb1.trans (hb2.mono hb1.size)
 have HT:=aA0 (show t.size=(txtL f ks).length by rw[←ht,aC3])
 by_cases h4:t.size≤400
 ·have h4i:(t.size:Int)≤400:=by omega
  have HE:Hid (aDH f ks=true):=aA0 (by rw[aDH,HB.out,←HT.out];simp[hx,h4])
  go_wp2_with fail
  go_ret
  exact⟨aA4 (by rw[HE.out];try (simp only[decide_eq_false_iff_not];omega)),bw2⟩
 ·have h4i:¬(t.size:Int)≤400:=by omega
  have HE:Hid (aDH f ks=false):=aA0 (by rw[aDH,HB.out,←HT.out];simp[hx,h4])
  go_wp2_with fail
  go_ret
  exact⟨aA4 (by rw[HE.out];try (simp only[decide_eq_false_iff_not];omega)),bw2⟩
end Go.Proofs.YtokmgbidmnanpaaGreatDoor
