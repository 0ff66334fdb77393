import Derived.Test.YtokmgbidmnanpaaGreatDoorQ2
import Derived.Deep.AppendLies
import Derived.Deep.RegionLaw
import Derived.Maps.AppendAt
set_option linter.unusedSimpArgs false
set_option linter.unusedVariables false
namespace Go.Proofs.YtokmgbidmnanpaaGreatDoor
open Go.RowKit Go.Maps
abbrev Sh:=Nat→Option (TypeId× Nat)
structure Bd where
 nt:Nat
 nf:Nat
 nn:Nat
 st:Bool
def Bd.le(a b:Bd):Prop:=a.nt≤b.nt∧a.nf≤b.nf∧a.nn≤b.nn∧(b.st=true→a.st=true)
theorem Bd.le.refl(a:Bd):a.le a:=⟨Nat.le_refl _,Nat.le_refl _,Nat.le_refl _,id⟩
theorem Bd.le.trans{a b c:Bd}(h:a.le b)(k:b.le c):a.le c:=⟨Nat.le_trans h.1 k.1,Nat.le_trans h.2.1 k.2.1,Nat.le_trans h.2.2.1 k.2.2.1,fun x=>h.2.2.2 (k.2.2.2 x)⟩
def wide(T:TypeId):Nat:=if T=54 then 8 else if T=52 then 3 else 1
theorem aTG(T:TypeId):0<wide T:=by
 unfold wide
 split
 ·omega
 ·split<;>omega
theorem aMC:wide 54=8:=rfl
theorem aJ8:wide 52=3:=rfl
theorem aSV:wide 9=1:=rfl
def SlOk(σ:Sh)(T:TypeId)(N:Nat)(v:Value):Prop:=∃(a:Option Addr) (len cap:Nat),v=.slice a len cap∧len≤N∧len≤cap∧cap≤maxLen∧((a=none∧len=0∧cap=0)∨∃b,a=some ⟨b,0,none⟩∧σ b=some (T,cap))
def StOk(v:Value):Prop:=∃s:ByteArray,v=.string s∧s.size≤12
def NmOk(st:Bool)(v:Value):Prop:=∃s:ByteArray,v=.string s∧s.size≤12∧(st=true→aAF s=false)
def BoOk(v:Value):Prop:=∃b:Bool,v=.bool b
def aA7(σ:Sh)(B:Bd)(T:TypeId)(j:Nat)(v:Value):Prop:=
 if T=54 then(if j<2 then StOk v else if j<7 then BoOk v else SlOk σ 9 B.nn v)
 else if T=52 then(if j=0 then NmOk B.st v else if j=1 then StOk v else SlOk σ 54 B.nf v)
 else StOk v
def Wf(w:World)(σ:Sh)(B:Bd):Prop:=∀b T n,σ b=some (T,n)→∃cur:Array Value,w.heap[b]?=some (.cells cur T (0,0))∧cur.size=n*wide T∧∀k v,cur[k]?=some v→aA7 σ B T (k % wide T) v
def Ext(σ σ':Sh):Prop:=∀b T n,σ b=some (T,n)→σ' b=some (T,n)
theorem Ext.refl(σ:Sh):Ext σ σ:=fun _ _ _ h=>h
theorem Ext.trans{a b c:Sh}(h:Ext a b)(k:Ext b c):Ext a c:=fun x T n q=>k x T n (h x T n q)
def Sh.add(σ:Sh)(N:Nat)(T:TypeId)(n:Nat):Sh:=fun b=>if b=N then some (T,n) else σ b
theorem Sh.add_ext{σ:Sh}{N n:Nat}{T:TypeId}(h:σ N=none):Ext σ (σ.add N T n):=fun b T' n' hb=>by
 unfold Sh.add
 by_cases e:b=N
 ·subst e;rw[h] at hb;cases hb
 ·rw[if_neg e,hb]
theorem Sh.add_self(σ:Sh)(N:Nat)(T:TypeId)(n:Nat):σ.add N T n N=some (T,n):=if_pos rfl
theorem Sh.add_ne(σ:Sh)(N:Nat)(T:TypeId)(n b:Nat)(h:b≠N):σ.add N T n b=σ b:=if_neg h
theorem SlOk.ext{σ σ':Sh}{T:TypeId}{N N':Nat}{v:Value}(h:SlOk σ T N v)(he:Ext σ σ')(hN:N≤N'):SlOk σ' T N' v:=by
 obtain⟨a,len,cap,rfl,h1,h2,h3,h4⟩:=h
 exact⟨a,len,cap,rfl,by omega,h2,h3,h4.imp id fun⟨b,hb,hs⟩=>⟨b,hb,he _ _ _ hs⟩⟩
theorem aA7.ext{σ σ':Sh}{B B':Bd}{T:TypeId}{j:Nat}{v:Value}(h:aA7 σ B T j v)(he:Ext σ σ')(hB:B.le B'):aA7 σ' B' T j v:=by
 unfold aA7 at h ⊢
 obtain⟨h1,h2,h3,h4⟩:=hB
 split
 ·rename_i e;rw[if_pos e] at h
  split
  ·rename_i e;rw[if_pos e] at h;exact h
  ·rename_i e;rw[if_neg e] at h
   split
   ·rename_i e;rw[if_pos e] at h;exact h
   ·rename_i e;rw[if_neg e] at h;exact h.ext he h3
 ·rename_i e;rw[if_neg e] at h
  split
  ·rename_i e;rw[if_pos e] at h
   split
   ·rename_i e;rw[if_pos e] at h
    obtain⟨s,rfl,q1,q2⟩:=h
    exact⟨s,rfl,q1,fun x=>q2 (h4 x)⟩
   ·rename_i e;rw[if_neg e] at h
    split
    ·rename_i e;rw[if_pos e] at h;exact h
    ·rename_i e;rw[if_neg e] at h;exact h.ext he h2
  ·rename_i e;rw[if_neg e] at h;exact h
theorem Wf.le{w:World}{σ:Sh}{B B':Bd}(h:Wf w σ B)(hB:B.le B'):Wf w σ B':=fun b T n hb=>by
 obtain⟨cur,h1,h2,h3⟩:=h b T n hb
 exact⟨cur,h1,h2,fun k v hv=>(h3 k v hv).ext (Ext.refl _) hB⟩
theorem Wf.keep{w w':World}{σ:Sh}{B:Bd}(h:Wf w σ B)(hb:∀b T n,σ b=some (T,n)→w'.heap[b]?=w.heap[b]?):Wf w' σ B:=fun b T n hs=>by
 obtain⟨cur,h1,h2⟩:=h b T n hs
 exact⟨cur,(hb b T n hs).trans h1,h2⟩
theorem Wf.lt{w:World}{σ:Sh}{B:Bd}(h:Wf w σ B){b:Nat}{T:TypeId}{n:Nat}(hs:σ b=some (T,n)):b<w.heap.size:=by
 obtain⟨cur,h1,-⟩:=h b T n hs
 exact(Array.getElem?_eq_some_iff.1 h1).1
theorem Wf.fresh{w:World}{σ:Sh}{B:Bd}(h:Wf w σ B){b:Nat}(hb:w.heap.size≤b):σ b=none:=by
 cases e:σ b with
 |none=>rfl
 |some x=>obtain⟨T,n⟩:=x;have:=h.lt e;omega
theorem Wf.below{w w':World}{σ:Sh}{B:Bd}(h:Wf w σ B)(hb:Below w.heap.size w w'):Wf w' σ B:=h.keep fun b T n hs=>hb.block b (h.lt hs)
theorem Wf.nil(w:World)(B:Bd):Wf w (fun _=>none) B:=fun _ _ _ h=>by cases h
theorem Wf.cell{w:World}{σ:Sh}{B:Bd}(h:Wf w σ B){b:Nat}{T:TypeId}{n:Nat}(hs:σ b=some (T,n))(i j:Nat)(hi:i<n)(hj:j<wide T):∃v,w.cell? ⟨b,i*wide T+j,none⟩=some v∧aA7 σ B T j v∧w.frozen? ⟨b,i*wide T+j,none⟩=false:=by
 obtain⟨cur,h1,h2,h3⟩:=h b T n hs
 have hlt:i*wide T+j<cur.size:=by
  rw[h2]
  calc i*wide T+j<i*wide T+wide T:=by omega
   _=(i+1)*wide T:=by rw[Nat.add_mul,Nat.one_mul]
   _≤n*wide T:=Nat.mul_le_mul_right _ hi
 refine⟨cur[i*wide T+j],?_,?_,?_⟩
 ·rw[cell_of_row w b _ cur T (0,0) h1,Array.getElem?_eq_getElem hlt]
 ·have:=h3 _ _ (Array.getElem?_eq_getElem hlt)
  have e:(i*wide T+j) % wide T=j:=by rw[Nat.mul_comm i,Nat.mul_add_mod,Nat.mod_eq_of_lt hj]
  rw[e] at this
  exact this
 ·simp[World.frozen?,h1]
theorem Wf.add{w:World}{σ:Sh}{B:Bd}(h:Wf w σ B){N:Nat}{T:TypeId}{n:Nat}{cur:Array Value}(hN:σ N=none)(hb:w.heap[N]?=some (.cells cur T (0,0)))(hz:cur.size=n*wide T)(hc:∀k v,cur[k]?=some v→aA7 σ B T (k % wide T) v):Wf w (σ.add N T n) B:=by
 have he:=Sh.add_ext (T:=T) (n:=n) hN
 intro b T' n' hs
 by_cases e:b=N
 ·subst e
  rw[Sh.add_self] at hs
  cases hs
  exact⟨cur,hb,hz,fun k v hv=>(hc k v hv).ext he (Bd.le.refl _)⟩
 ·rw[Sh.add_ne _ _ _ _ _ e] at hs
  obtain⟨cur',h1,h2,h3⟩:=h b T' n' hs
  exact⟨cur',h1,h2,fun k v hv=>(h3 k v hv).ext he (Bd.le.refl _)⟩
theorem Wf.row{w w':World}{σ:Sh}{B:Bd}(h:Wf w σ B){N:Nat}{T:TypeId}{n:Nat}{cur:Array Value}(hN:σ N=some (T,n))(hb:w'.heap[N]?=some (.cells cur T (0,0)))(hz:cur.size=n*wide T)(hc:∀k v,cur[k]?=some v→aA7 σ B T (k % wide T) v)(hr:∀b,b≠N→b<w.heap.size→w'.heap[b]?=w.heap[b]?):Wf w' σ B:=by
 intro b T' n' hs
 by_cases e:b=N
 ·subst e
  rw[hN] at hs
  cases hs
  exact⟨cur,hb,hz,hc⟩
 ·obtain⟨cur',h1,h2⟩:=h b T' n' hs
  exact⟨cur',(hr b e (h.lt hs)).trans h1,h2⟩
theorem Wf.set{w:World}{σ:Sh}{B:Bd}(h:Wf w σ B){N:Nat}{T:TypeId}{n:Nat}(hN:σ N=some (T,n))(k:Nat)(v:Value)(hv:aA7 σ B T (k % wide T) v):Wf (w.setCell ⟨N,k,none⟩ v) σ B:=by
 obtain⟨cur,h1,h2,h3⟩:=h N T n hN
 refine h.row hN (cur:=cur.setIfInBounds k v) ?_ (by simpa using h2) (fun j u hu=>?_) (fun b hb _=>Below.heap_setCell _ _ _ _ hb)
 ·show(w.heap.modify N _)[N]?=_
  rw[Array.getElem?_modify]
  simp[h1]
 ·by_cases e:j=k
  ·subst e
   rw[Array.getElem?_setIfInBounds_self] at hu
   split at hu
   ·cases hu;exact hv
   ·cases hu
  ·rw[Array.getElem?_setIfInBounds_ne (Ne.symm e)] at hu
   exact h3 j u hu
theorem aGZ{P:Program}{w:World}{σ:Sh}{B:Bd}(hW:Wf w σ B)(t ty e:TypeId)(i:TypeInfo)(z:Value)(bytes:Nat)(ht:P.underlying t=some (.slice e))(hi:P.info? e=some i)(hz:i.zero=some z)
  (hsize:i.size=wide e) (hby:i.bytes=bytes) (hzs:z.cells.size=wide e) (hzc:∀j u,z.cells[j]?=some u→aA7 σ B e j u)
  (a:Option Addr) (n cap:Nat) (hnc:n≤cap) (hcm:cap≤maxLen) (hs:(a=none∧n=0∧cap=0)∨∃b,a=some ⟨b,0,none⟩∧σ b=some (e,cap))
  (ad:Addr) (m c:Nat) (news:List Value) (hl:news.length=m*wide e) (hnews:∀j u,news[j]?=some u→w.cell? (ad.add j)=some u) (h1:∀u∈ news,u.oneCell'=true) (hok:∀j u,news[j]?=some u→aA7 σ B e (j % wide e) u)
  (hm:0<m) (h63:n+m≤maxLen) (hbytes:(n+m)*bytes≤140737488355328):
  ∃g cap' w' σ',(Builtin.append_ #[t,t] ty #[.slice a n cap,.slice (some ad) m c]).run P w=.ok (.slice (some ⟨g,0,none⟩) (n+m) cap') w'∧Wf w' σ' B∧σ' g=some (e,cap')∧n+m≤cap'∧cap'≤maxLen∧Ext σ σ'∧(∀b,b<w.heap.size→σ' b=σ b)∧
   w.grownBy w' (Value.slice a n cap).ownBlock∧(∀b,a=some ⟨b,0,none⟩→∀j,j<n*wide e→w'.cell? ⟨g,j,none⟩=w.cell? ⟨b,j,none⟩)∧(∀j u,news[j]?=some u→w'.cell? ⟨g,n*wide e+j,none⟩=some u):=by
 have hpos:=aTG e
 subst hby
 have hsmall:n+m≤9223372036854775807:=by simp only[maxLen] at h63;omega
 have zc:∀q k v,(Builtin.zeroCells z.cells q)[k]?=some v→aA7 σ B e (k % wide e) v:=by
  intro q k v hv
  have hk:k<q*wide e:=by
   have:=(Array.getElem?_eq_some_iff.1 hv).1
   rw[size_zeroCells,hzs] at this
   exact this
  refine hzc (k % wide e) v ?_
  unfold Builtin.zeroCells at hv
  rw[←hv]
  have hkm:k % wide e<z.cells.size:=by rw[hzs];exact Nat.mod_lt _ hpos
  simp[hzs,hk,hkm,Nat.mod_lt _ hpos]
 have grown:∀(old:Nat) (xs:List Value),xs.length=n*wide e→(∀j u,xs[j]?=some u→aA7 σ B e (j % wide e) u)→∀(row:Option Nat),
   Wf (w.drew.alloc (.cells (xs.toArray++news.toArray++Builtin.zeroCells z.cells (grownCap w (n+m) old e- (n+m))) e)) (σ.add w.heap.size e (grownCap w (n+m) old e)) B∧n+m≤grownCap w (n+m) old e∧grownCap w (n+m) old e≤maxLen∧
   w.grownBy (w.drew.alloc (.cells (xs.toArray++news.toArray++Builtin.zeroCells z.cells (grownCap w (n+m) old e- (n+m))) e)) row∧
   (∀j u,xs[j]?=some u→(w.drew.alloc (.cells (xs.toArray++news.toArray++Builtin.zeroCells z.cells (grownCap w (n+m) old e- (n+m))) e)).cell? ⟨w.heap.size,j,none⟩=some u)∧
   (∀j u,news[j]?=some u→(w.drew.alloc (.cells (xs.toArray++news.toArray++Builtin.zeroCells z.cells (grownCap w (n+m) old e- (n+m))) e)).cell? ⟨w.heap.size,n*wide e+j,none⟩=some u):=by
  intro old xs hx hxo row
  have hge:=grownCap_ge w (n+m) old e
  have hcm:grownCap w (n+m) old e≤maxLen:=grownCap_le_maxLen w (n+m) old e h63
  generalize grownCap w (n+m) old e=q at*
  have hblk:(w.drew.alloc (.cells (xs.toArray++news.toArray++Builtin.zeroCells z.cells (q- (n+m))) e)).heap[w.heap.size]?=some (.cells (xs.toArray++news.toArray++Builtin.zeroCells z.cells (q- (n+m))) e (0,0)):=heap_alloc_new w.drew _
  have hgr:∀row,w.grownBy (w.drew.alloc (.cells (xs.toArray++news.toArray++Builtin.zeroCells z.cells (q- (n+m))) e)) row:=fun row=>⟨rfl,rfl,rfl,by simp,fun k hk _=>(World.grownBy_alloc w.drew _ none).block k hk (by simp)⟩
  have hWn:Wf (w.drew.alloc (.cells (xs.toArray++news.toArray++Builtin.zeroCells z.cells (q- (n+m))) e)) σ B:=hW.keep fun b T n' hb=>(hgr none).block b (hW.lt hb) (by simp)
  refine⟨hWn.add (hW.fresh (Nat.le_refl _)) hblk ?_ ?_,hge,hcm,hgr row,fun j u hu=>?_,fun j u hu=>?_⟩
  ·simp only[Array.size_append,List.size_toArray,size_zeroCells,hzs,hx,hl,←Nat.add_mul]
   congr 1
   omega
  ·intro k v hv
   rw[Array.getElem?_append,Array.getElem?_append] at hv
   simp only[Array.size_append,List.size_toArray,hx,hl] at hv
   split at hv
   ·split at hv
    ·exact hxo k v (by simpa using hv)
    ·rename_i e1 e2
     have h2:=hok (k- n*wide e) v (by simpa using hv)
     have e3:(k- n*wide e) % wide e=k % wide e:=by
      obtain⟨d,rfl⟩:∃d,k=n*wide e+d:=⟨k- n*wide e,by omega⟩
      rw[Nat.add_sub_cancel_left,Nat.mul_comm n,Nat.mul_add_mod]
     rwa [e3] at h2
   ·rename_i e1
    have h2:=zc _ (k- (n*wide e+m*wide e)) v hv
    have e3:(k- (n*wide e+m*wide e)) % wide e=k % wide e:=by
     rw[←Nat.add_mul] at e1 ⊢
     obtain⟨d,rfl⟩:∃d,k=(n+m)*wide e+d:=⟨k- (n+m)*wide e,by omega⟩
     rw[Nat.add_sub_cancel_left,Nat.mul_comm (n+m),Nat.mul_add_mod]
    rwa [e3] at h2
  ·rw[cell_of_row _ _ _ _ _ _ hblk]
   have hj:=(List.getElem?_eq_some_iff.1 hu).1
   rw[Array.getElem?_append,if_pos (by simp;omega),Array.getElem?_append,if_pos (by simpa using hj)]
   simpa using hu
  ·rw[cell_of_row _ _ _ _ _ _ hblk]
   have hj:=(List.getElem?_eq_some_iff.1 hu).1
   rw[Array.getElem?_append,if_pos (by simp[hx];omega),Array.getElem?_append,if_neg (by simp[hx])]
   simpa[hx] using hu
 have hgext:∀q,Ext σ (σ.add w.heap.size e q)∧∀b,b<w.heap.size→(σ.add w.heap.size e q) b=σ b:=fun q=>⟨Sh.add_ext (hW.fresh (Nat.le_refl _)),fun b hb=>Sh.add_ne _ _ _ _ _ (by omega)⟩
 rcases hs with⟨rfl,rfl,rfl⟩| ⟨g,rfl,hg⟩
 ·have hr:=run_append_nil (P:=P) w t ty e i z ht hi hz ad m c news (by rw[hsize];exact hl) hnews (by omega) (by omega) (by have hb:=hbytes;simp only[Nat.zero_add] at hb;omega)
  obtain⟨g1,g2,g3,g4,-,g6⟩:=grown 0 [] (by simp) (fun j u hu=>by simp at hu) none
  simp only[Nat.zero_add,List.nil_append,Array.empty_append] at g1 g2 g3 g4 g6 ⊢
  exact⟨w.heap.size,_,_,_,hr,g1,Sh.add_self _ _ _ _,g2,g3,(hgext _).1,(hgext _).2,g4,(fun b hb=>by cases hb),g6⟩
 ·obtain⟨cur,hb,hcs,hco⟩:=hW g e cap hg
  have hlen:(cur.toList.take (n*wide e)).length=n*wide e:=by
   rw[List.length_take,Array.length_toList,hcs]
   exact Nat.min_eq_left (Nat.mul_le_mul_right _ hnc)
  have hxo:∀j u,(cur.toList.take (n*wide e))[j]?=some u→aA7 σ B e (j % wide e) u:=fun j u hu=>by
   rw[List.getElem?_take] at hu
   split at hu
   ·exact hco j u (by simpa using hu)
   ·cases hu
  have hxc:∀j,j<n*wide e→(cur.toList.take (n*wide e))[j]?=cur[j]?:=fun j hj=>by
   rw[List.getElem?_take,if_pos hj];simp
  by_cases hroom:n+m≤cap
  ·have hfit:n*i.size+news.length≤cur.size:=by rw[hl,hcs,hsize,←Nat.add_mul];exact Nat.mul_le_mul_right _ hroom
   have hr:=run_append_room (P:=P) w t ty e i ht hi g n cap cur hb ad m c news (by rw[hsize];exact hl) hnews h1 hroom hfit
   rw[hsize] at hr hfit
   have hb':=setRow_heap w g cur (cur.toList.take (n*wide e)++news++cur.toList.drop (n*wide e+news.length)).toArray e _ hb
   refine⟨g,cap,_,σ,hr,?_,hg,hroom,hcm,Ext.refl _,fun _ _=>rfl,⟨rfl,rfl,rfl,by simp,fun k _ hk=>setRow_other w g k _ (fun e=>hk (by simp[Value.ownBlock,e]))⟩,fun b hbe j hj=>?_,fun j u hu=>?_⟩
   ·refine hW.row hg hb' ?_ ?_ (fun b hb _=>setRow_other w g b _ hb)
    ·simp only[List.size_toArray,List.length_append,hlen,List.length_drop,Array.length_toList]
     omega
    ·intro k v hv
     simp only[List.getElem?_toArray] at hv
     rw[List.append_assoc,List.getElem?_append] at hv
     split at hv
     ·exact hxo k v hv
     ·rename_i e1
      rw[hlen] at e1 hv
      rw[List.getElem?_append] at hv
      split at hv
      ·have h2:=hok _ v hv
       have e3:(k- n*wide e) % wide e=k % wide e:=by
        obtain⟨d,rfl⟩:∃d,k=n*wide e+d:=⟨k- n*wide e,by omega⟩
        rw[Nat.add_sub_cancel_left,Nat.mul_comm n,Nat.mul_add_mod]
       rwa [e3] at h2
      ·rename_i e2
       rw[List.getElem?_drop] at hv
       have e4:n*wide e+news.length+(k- n*wide e- news.length)=k:=by omega
       rw[e4] at hv
       exact hco k v (by simpa using hv)
   ·cases hbe
    rw[cell_of_row _ _ _ _ _ _ hb',cell_of_row _ _ _ _ _ _ hb]
    simp only[List.getElem?_toArray]
    rw[List.append_assoc,List.getElem?_append,if_pos (by rw[hlen];exact hj),hxc j hj]
   ·rw[cell_of_row _ _ _ _ _ _ hb']
    simp only[List.getElem?_toArray]
    have hj:=(List.getElem?_eq_some_iff.1 hu).1
    rw[List.append_assoc,List.getElem?_append,if_neg (by rw[hlen];omega),hlen,Nat.add_sub_cancel_left,List.getElem?_append,if_pos hj,hu]
  ·have holds:∀j u,(cur.toList.take (n*wide e))[j]?=some u→w.cell? ((⟨g,0,none⟩:Addr).add j)=some u:=fun j u hu=>by
    rw[Addr.add_lit,Nat.zero_add,cell_of_row _ _ _ _ _ _ hb]
    have hj:=(List.getElem?_eq_some_iff.1 hu).1
    rw[hlen] at hj
    rw[←hu,hxc j hj]
   have hr:=run_append_grow (P:=P) w t ty e i z ht hi hz ⟨g,0,none⟩ n cap _ (by rw[hsize];exact hlen) holds ad m c news (by rw[hsize];exact hl) hnews (by omega) (by omega) (growslice_fits (by omega) hbytes)
   obtain⟨g1,g2,g3,g4,g5,g6⟩:=grown cap _ hlen hxo (Value.ownBlock (.slice (some ⟨g,0,none⟩) n cap))
   refine⟨w.heap.size,_,_,_,hr,g1,Sh.add_self _ _ _ _,g2,g3,(hgext _).1,(hgext _).2,g4,fun b hbe j hj=>?_,g6⟩
   cases hbe
   have hj2:j<cur.size:=by
    rw[hcs]
    exact Nat.lt_of_lt_of_le hj (Nat.mul_le_mul_right _ hnc)
   rw[cell_of_row _ _ _ _ _ _ hb,Array.getElem?_eq_getElem hj2]
   exact g5 j _ (by rw[hxc j hj,Array.getElem?_eq_getElem hj2])
theorem aF4{P:Program}{w:World}{σ:Sh}{B:Bd}(hW:Wf w σ B){ops:Array Oper}{rest:List Oper}{o:Oper}{ac:Act}{Q:Exit→Act→World→Prop}(hgd:o.guard=none)(s x:Operand)(t:TypeId)
  (ho:o.op=.call { callee:=.builtin .append,args:=#[s,x],argTypes:=#[t,t] })
  (e:TypeId) (i:TypeInfo) (z:Value) (bytes:Nat) (ht:P.underlying t=some (.slice e)) (hi:P.info? e=some i) (hz:i.zero=some z)
  (hsize:i.size=wide e) (hby:i.bytes=bytes) (hzs:z.cells.size=wide e) (hzc:∀j u,z.cells[j]?=some u→aA7 σ B e j u)
  (a:Option Addr) (n cap:Nat) (hsv:ac.eval s=.slice a n cap) (hnc:n≤cap) (hcm:cap≤maxLen) (hs:(a=none∧n=0∧cap=0)∨∃b,a=some ⟨b,0,none⟩∧σ b=some (e,cap))
  (ad:Addr) (m c:Nat) (news:List Value) (hx:ac.eval x=.slice (some ad) m c) (hl:news.length=m*wide e) (hnews:∀j u,news[j]?=some u→w.cell? (ad.add j)=some u) (h1:∀u∈ news,u.oneCell'=true) (hok:∀j u,news[j]?=some u→aA7 σ B e (j % wide e) u)
  (hm:0<m) (h63:n+m≤maxLen) (hbytes:(n+m)*bytes≤140737488355328)
  (h:∀g cap' w' σ',Wf w' σ' B→σ' g=some (e,cap')→n+m≤cap'→cap'≤maxLen→Ext σ σ'→(∀b,b<w.heap.size→σ' b=σ b)→
   w.grownBy w' (Value.slice a n cap).ownBlock→(∀b,a=some ⟨b,0,none⟩→∀j,j<n*wide e→w'.cell? ⟨g,j,none⟩=w.cell? ⟨b,j,none⟩)→(∀j u,news[j]?=some u→w'.cell? ⟨g,n*wide e+j,none⟩=some u)→wpList P ops Q rest (ac.put o.dst (.slice (some ⟨g,0,none⟩) (n+m) cap')) w'):
  wpList P ops Q (o::rest) ac w:=by
 obtain⟨g,cap',w',σ',hrun,q1,q2,q3,q4,q5,q6,q7,q8,q9⟩:=aGZ (P:=P) hW t o.type e i z bytes ht hi hz hsize hby hzs hzc a n cap hnc hcm hs ad m c news hl hnews h1 hok hm h63 hbytes
 refine wpList_plain hgd fun K hK=>?_
 unfold Oper.wp
 simp[execOp,ho,resolve,invoke,builtin,hsv,hx,hrun,Result.andThen]
 exact hK _ _ (h g cap' w' σ' q1 q2 q3 q4 q5 q6 q7 q8 q9)
theorem aD5{P:Program}{w:World}{σ:Sh}{B:Bd}(hW:Wf w σ B){ops:Array Oper}{o:Oper}{ac:Act}{K:Act→World→Prop}{Q:Exit→Act→World→Prop}{E:Prop}(hgd:o.guard=none)(s x:Operand)(t:TypeId)
  (ho:o.op=.call { callee:=.builtin .append,args:=#[s,x],argTypes:=#[t,t] })
  (e:TypeId) (i:TypeInfo) (z:Value) (bytes:Nat) (ht:P.underlying t=some (.slice e)) (hi:P.info? e=some i) (hz:i.zero=some z)
  (hsize:i.size=wide e) (hby:i.bytes=bytes) (hzs:z.cells.size=wide e) (hzc:∀j u,z.cells[j]?=some u→aA7 σ B e j u)
  (a:Option Addr) (n cap:Nat) (hsv:ac.eval s=.slice a n cap) (hnc:n≤cap) (hcm:cap≤maxLen) (hs:(a=none∧n=0∧cap=0)∨∃b,a=some ⟨b,0,none⟩∧σ b=some (e,cap))
  (ad:Addr) (m c:Nat) (news:List Value) (hx:ac.eval x=.slice (some ad) m c) (hl:news.length=m*wide e) (hnews:∀j u,news[j]?=some u→w.cell? (ad.add j)=some u) (h1:∀u∈ news,u.oneCell'=true) (hok:∀j u,news[j]?=some u→aA7 σ B e (j % wide e) u)
  (hm:0<m) (h63:n+m≤maxLen) (hbytes:(n+m)*bytes≤140737488355328)
  (h:∀g cap' w' σ',Wf w' σ' B→σ' g=some (e,cap')→n+m≤cap'→cap'≤maxLen→Ext σ σ'→(∀b,b<w.heap.size→σ' b=σ b)→
   w.grownBy w' (Value.slice a n cap).ownBlock→(∀b,a=some ⟨b,0,none⟩→∀j,j<n*wide e→w'.cell? ⟨g,j,none⟩=w.cell? ⟨b,j,none⟩)→(∀j u,news[j]?=some u→w'.cell? ⟨g,n*wide e+j,none⟩=some u)→K (ac.put o.dst (.slice (some ⟨g,0,none⟩) (n+m) cap')) w'):
  if Region.wanted o (yielded ops ac.tmps)=true then Oper.wp P o ac w K Q else E:=by
 have hw:Region.wanted o (yielded ops ac.tmps)=true:=by simp[Region.wanted,hgd]
 rw[if_pos hw]
 obtain⟨g,cap',w',σ',hrun,q1,q2,q3,q4,q5,q6,q7,q8,q9⟩:=aGZ (P:=P) hW t o.type e i z bytes ht hi hz hsize hby hzs hzc a n cap hnc hcm hs ad m c news hl hnews h1 hok hm h63 hbytes
 unfold Oper.wp execOp
 simp only[ho,resolve,invoke,builtin,Sem.run_bind,Sem.run_pure,Result.andThen_ok,List.map_toArray,List.map_cons,List.map_nil,hsv,hx,hrun]
 exact h g cap' w' σ' q1 q2 q3 q4 q5 q6 q7 q8 q9
end Go.Proofs.YtokmgbidmnanpaaGreatDoor
namespace Go.Proofs.YtokmgbidmnanpaaGreatDoor
open Go.RowKit
def aAI(p:Nat→Bool)(n:Nat):Int:=match (List.range n).find? p with
 |some i=>i
 |none=>-1
theorem aC5{p:Nat→Bool}{n:Nat}(h:∀i,i<n→p i=false):aAI p n=-1:=by
 have:(List.range n).find? p=none:=by
  rw[List.find?_eq_none];intro i hi;simpa using h i (by simpa using hi)
 rw[aAI,this]
theorem aC0{p:Nat→Bool}{n k:Nat}(h:∀i,i<k→p i=false)(hk:p k=true)(hn:k<n):aAI p n=k:=by
 have:(List.range n).find? p=some k:=by
  rw[List.find?_range_eq_some]
  exact⟨hk,by simpa using hn,fun i hi=>by simpa using h i hi⟩
 rw[aAI,this]
theorem aAB(p:Nat→Bool)(n:Nat):(aAI p n=-1∧∀i,i<n→p i=false)∨∃k:Nat,aAI p n=k∧k<n∧p k=true∧∀i,i<k→p i=false:=by
 cases h:(List.range n).find? p with
 |none=>
  left
  refine⟨by rw[aAI,h],fun i hi=>?_⟩
  rw[List.find?_eq_none] at h
  simpa using h i (by simpa using hi)
 |some k=>
  right
  rw[List.find?_range_eq_some] at h
  exact⟨k,by rw[aAI,List.find?_range_eq_some.2 h],by simpa using h.2.1,h.1,fun i hi=>by simpa using h.2.2 i hi⟩
set_option maxHeartbeats 400000 in
theorem aCU(p:Pt)(w:World)(B:Nat)(v:Value)(s:ByteArray)(hR:PRep w (·<B) p v)(hB:B≤w.heap.size):
  Calls Tryz.prog 112 #[v,.string s] w fun e w'=>e=.returned (.int .i64 (aAI (fun i=>(tth p.types i).name.toList==s.toList) p.types.length))∧Below w.heap.size w w':=by
 obtain⟨name,types⟩:=p
 obtain⟨ta,tc,rfl,hK,hnc,hn⟩:=hR
 simp only at hK hnc hn ⊢
 have h3:=hK.1
 obtain⟨-,C,hA,hr⟩:=hK
 by_cases hn0:types.length=0
 ·go_enter Tryz.func112,Tryz.ntmps112
  go_wp2_with fail
  go_loop [5] (fun i=>i=.int .i64 0) (fun _=>0)
  case atStart=>rfl
  case round=>
   subst hrel
   go_wp2_with fail
   go_ret
   exact⟨aB8 (by first| rfl| (rw[hn0];rfl)),aA2 _ _⟩
 ·obtain⟨b,off,rfl,hbB,hc⟩:=hA (by omega)
  have hcell:∀k,k<types.length→∀o,(w.alloc o).cell? ⟨b,off+k*3,none⟩=some (.string (tth types k).name):=fun k hk o=>by
   have h1:=hc k hk 0 (by omega)
   have h2:C k 0=.string (tth types k).name:=by
    obtain⟨x,y,hv,-⟩:=hr k hk
    simp only[Value.agg.injEq,Array.mk.injEq,List.cons.injEq] at hv
    exact hv.1
   rw[h2] at h1
   exact((aA2 w o).cell (p:=⟨b,off+k*3,none⟩) (by show b<_;omega)).trans h1
  clear hc
  go_enter Tryz.func112,Tryz.ntmps112
  go_wp2_with fail
  go_loop [5] (fun i=>∃k:Nat,k≤types.length∧i=.int .i64 k∧∀j,j<k→((tth types j).name.toList==s.toList)=false) (fun i=>types.length- (intOf i).toNat)
  case atStart=>exact⟨0,Nat.zero_le _,rfl,fun j hj=>by omega⟩
  case round=>
   obtain⟨k,hk,rfl,hp⟩:=hrel
   have HP:Hid (∀j,j<k→((tth types j).name.toList==s.toList)=false):=hp
   clear hp
   by_cases hlt:k<types.length
   ·have hck:=hcell k hlt
    clear hcell
    cases he:((tth types k).name.toList==s.toList)
    ·go_wp2_with fail
     go_round
     case rel=>exact⟨k+1,by omega,by go_num,fun j hj=>by by_cases e:j=k;(subst e;exact he);exact HP.out j (by omega)⟩
     case measure=>simp[intOf];omega
    ·go_wp2_with fail
     go_ret
     exact⟨aB8 (aC0 HP.out he hlt).symm,aA2 _ _⟩
   ·go_wp2_with fail
    go_ret
    have e:k=types.length:=by omega
    exact⟨aB8 (aC5 (e▸HP.out)).symm,aA2 _ _⟩
set_option maxHeartbeats 400000 in
theorem aCL(t:T)(w:World)(B:Nat)(v:Value)(s:ByteArray)(hR:TRep w (·<B) t v)(hB:B≤w.heap.size):
  Calls Tryz.prog 113 #[v,.string s] w fun e w'=>e=.returned (.int .i64 (aAI (fun i=>(fth t.fields i).name.toList==s.toList) t.fields.length))∧Below w.heap.size w w':=by
 obtain⟨name,key,fields⟩:=t
 obtain⟨ta,tc,rfl,hK,hnc,hn,ho⟩:=hR
 simp only at hK hnc hn ho ⊢
 have h3:=hK.1
 obtain⟨-,C,hA,hr⟩:=hK
 by_cases hn0:fields.length=0
 ·go_enter Tryz.func113,Tryz.ntmps113
  go_wp2_with fail
  go_loop [5] (fun i=>i=.int .i64 0) (fun _=>0)
  case atStart=>rfl
  case round=>
   subst hrel
   go_wp2_with fail
   go_ret
   exact⟨aB8 (by first| rfl| (rw[hn0];rfl)),aA2 _ _⟩
 ·obtain⟨b,off,rfl,hbB,hc⟩:=hA (by omega)
  have hcell:∀k,k<fields.length→∀o,(w.alloc o).cell? ⟨b,off+k*8,none⟩=some (.string (fth fields k).name):=fun k hk o=>by
   have h1:=hc k hk 0 (by omega)
   have h2:C k 0=.string (fth fields k).name:=by
    obtain⟨x,y,hv,-⟩:=hr k hk
    simp only[Value.agg.injEq,Array.mk.injEq,List.cons.injEq] at hv
    exact hv.1
   rw[h2] at h1
   exact((aA2 w o).cell (p:=⟨b,off+k*8,none⟩) (by show b<_;omega)).trans h1
  clear hc
  go_enter Tryz.func113,Tryz.ntmps113
  go_wp2_with fail
  go_loop [5] (fun i=>∃k:Nat,k≤fields.length∧i=.int .i64 k∧∀j,j<k→((fth fields j).name.toList==s.toList)=false) (fun i=>fields.length- (intOf i).toNat)
  case atStart=>exact⟨0,Nat.zero_le _,rfl,fun j hj=>by omega⟩
  case round=>
   obtain⟨k,hk,rfl,hp⟩:=hrel
   have HP:Hid (∀j,j<k→((fth fields j).name.toList==s.toList)=false):=hp
   clear hp
   by_cases hlt:k<fields.length
   ·have hck:=hcell k hlt
    clear hcell
    cases he:((fth fields k).name.toList==s.toList)
    ·go_wp2_with fail
     go_round
     case rel=>exact⟨k+1,by omega,by go_num,fun j hj=>by by_cases e:j=k;(subst e;exact he);exact HP.out j (by omega)⟩
     case measure=>simp[intOf];omega
    ·go_wp2_with fail
     go_ret
     exact⟨aB8 (aC0 HP.out he hlt).symm,aA2 _ _⟩
   ·go_wp2_with fail
    go_ret
    have e:k=fields.length:=by omega
    exact⟨aB8 (aC5 (e▸HP.out)).symm,aA2 _ _⟩
end Go.Proofs.YtokmgbidmnanpaaGreatDoor
namespace Go.Proofs.YtokmgbidmnanpaaGreatDoor
open Go.RowKit
set_option maxHeartbeats 400000 in
theorem aFI(s:ByteArray)(w:World):
  Calls Tryz.prog 108 #[.string s] w fun e w'=>e=.returned (.bool (aAF s))∧w=w':=by
 cases h1:(s.toList==[105,110,116])<;>cases h2:(s.toList==[116,101,120,116])<;>
 ·go_enter Tryz.func108,Tryz.ntmps108
  go_wp2_with fail
  go_ret
  exact⟨aA4 (by simp only[aAF,isT,h1,h2];rfl),rfl⟩
def aIB(s:ByteArray):Bool:=isT s [112,97,114,116]||isT s [116,121,112,101]||isT s [107,101,121]||isT s [102,97,114]||isT s [104,105,100,100,101,110]||isT s [115,104,97,114,101,100]||isT s [110,101,101,100,115]||aAF s
set_option maxHeartbeats 1600000 in
theorem aQ0(s:ByteArray)(w:World):
  Calls Tryz.prog 136 #[.string s] w fun e w'=>e=.returned (.bool (aIB s))∧w=w':=by
 cases k0:(s.toList==[112,97,114,116])
 case true=>
  go_enter Tryz.func136,Tryz.ntmps136
  go_wp2_with fail
  go_ret
  exact⟨aA4 (by simp[aIB,isT,k0]),rfl⟩
 cases k1:(s.toList==[116,121,112,101])
 case true=>
  go_enter Tryz.func136,Tryz.ntmps136
  go_wp2_with fail
  go_ret
  exact⟨aA4 (by simp[aIB,isT,k1]),rfl⟩
 cases k2:(s.toList==[107,101,121])
 case true=>
  go_enter Tryz.func136,Tryz.ntmps136
  go_wp2_with fail
  go_ret
  exact⟨aA4 (by simp[aIB,isT,k2]),rfl⟩
 cases k3:(s.toList==[102,97,114])
 case true=>
  go_enter Tryz.func136,Tryz.ntmps136
  go_wp2_with fail
  go_ret
  exact⟨aA4 (by simp[aIB,isT,k3]),rfl⟩
 cases k4:(s.toList==[104,105,100,100,101,110])
 case true=>
  go_enter Tryz.func136,Tryz.ntmps136
  go_wp2_with fail
  go_ret
  exact⟨aA4 (by simp[aIB,isT,k4]),rfl⟩
 cases k5:(s.toList==[115,104,97,114,101,100])
 case true=>
  go_enter Tryz.func136,Tryz.ntmps136
  go_wp2_with fail
  go_ret
  exact⟨aA4 (by simp[aIB,isT,k5]),rfl⟩
 cases k6:(s.toList==[110,101,101,100,115])
 case true=>
  go_enter Tryz.func136,Tryz.ntmps136
  go_wp2_with fail
  go_ret
  exact⟨aA4 (by simp[aIB,isT,k6]),rfl⟩
 go_enter Tryz.func136,Tryz.ntmps136
 go_wp2_with (go_at_call 108;refine(aFI _ _).mono ?_;rintro e w' ⟨rfl,rfl⟩)
 go_ret
 exact⟨aA4 (by simp[aIB,isT,k0,k1,k2,k3,k4,k5,k6]),rfl⟩
theorem aT2(s:ByteArray):aAO s=(decide (s.size≤8)&&aE3 s&&!(aAH s 0==95)&&!aIB s):=by
 simp only[aAO,aIB]
 cases aE3 s<;>cases decide (s.size≤8)<;>cases (aAH s 0==95)<;>cases aAF s<;>simp[Bool.and_assoc]
set_option maxHeartbeats 1600000 in
theorem aCM(s:ByteArray)(w:World)(hs:s.size≤maxLen):
  Calls Tryz.prog 105 #[.string s] w fun e w'=>e=.returned (.bool (aAO s))∧w=w':=by
 rw[aT2]
 have hcw:=fun w=>aQ8 s w hs
 have hck:=fun w=>aQ0 s w
 by_cases h8:s.size≤8
 case neg=>
  have h8':¬(s.size:Int)≤8:=by omega
  have h8d:decide ((s.size:Int)≤8)=false:=by simpa using h8'
  go_enter Tryz.func105,Tryz.ntmps105
  go_wp2_with fail
  go_ret
  exact⟨aA4 (by simp[h8]),rfl⟩
 have h8':(s.size:Int)≤8:=by omega
 have H8:Hid (decide (s.size≤8)=true):=by show _=_;simpa using h8
 cases hw:aE3 s
 ·rw[hw] at hcw
  go_enter Tryz.func105,Tryz.ntmps105
  go_wp2_with (go_at_call 135;refine(hcw _).mono ?_;rintro e w' ⟨rfl,rfl⟩)
  go_ret
  exact⟨aA4 (by simp),rfl⟩
 rw[hw] at hcw
 have h1:0<s.size:=by
  rw[aE3] at hw;simp only[Bool.and_eq_true,decide_eq_true_eq] at hw;omega
 have hb0:=aEQ s 0 h1
 cases hu:(aAH s 0==95)
 case true=>
  have hu':(aAH s 0 !=95)=false:=by simp only[bne,hu];rfl
  go_enter Tryz.func105,Tryz.ntmps105
  go_wp2_with (go_at_call 135;refine(hcw _).mono ?_;rintro e w' ⟨rfl,rfl⟩)
  go_ret
  exact⟨aA4 (by simp),rfl⟩
 have hu':(aAH s 0 !=95)=true:=by simp only[bne,hu];rfl
 cases hk:aIB s
 all_goals
  rw[hk] at hck
  go_enter Tryz.func105,Tryz.ntmps105
  go_wp2_with (first| (go_at_call 135;refine(hcw _).mono ?_;rintro e w' ⟨rfl,rfl⟩)| (go_at_call 136;refine(hck _).mono ?_;rintro e w' ⟨rfl,rfl⟩))
  go_ret
  exact⟨aA4 (by simp[H8.out]),rfl⟩
end Go.Proofs.YtokmgbidmnanpaaGreatDoor
namespace Go.Proofs.YtokmgbidmnanpaaGreatDoor
open Go.RowKit Go.Shelf
def aCI(N:Nat)(O:Nat→Prop)(p:World→Prop):Prop:=∀A B,p A→A.heap.size≤B.heap.size→B.os=A.os→B.tape=A.tape→B.output=A.output→(∀b,b<A.heap.size→(b<N∨O b)→B.heap[b]?=A.heap[b]?)→p B
theorem aCI.grows{N:Nat}{O:Nat→Prop}{p:World→Prop}(h:aCI N O p):aO0 p:=fun A B hA hb=>h A B hA hb.size hb.os hb.tape hb.output fun b hlt _=>hb.block b hlt
theorem aCI.up{N M:Nat}{O:Nat→Prop}{p:World→Prop}(h:aCI N O p)(hn:N≤M):aCI M O p:=fun A B hA h1 h2 h3 h4 h5=>h A B hA h1 h2 h3 h4 fun b hb hN=>h5 b hb (hN.imp (fun h=>Nat.lt_of_lt_of_le h hn) id)
def aDX(O:Nat→Prop)(A:World):Prop:=∀b,O b→∃o,A.heap[b]?=some o∧o.isCells=true
theorem aDX.lt{O:Nat→Prop}{A:World}(h:aDX O A)(b:Nat)(hb:O b):b<A.heap.size:=by
 obtain⟨o,ho,-⟩:=h b hb
 exact(Array.getElem?_eq_some_iff.1 ho).1
theorem aCI.still{N:Nat}{O:Nat→Prop}{p:World→Prop}(h:aCI N O p)(hc:∀A,p A→aDX O A):aK8 N p:=fun A l o o' hA hl h1 h2=>h A _ hA (by simp) rfl rfl rfl fun b hb hN=>by
 refine World.putObj_heap_other fun e=>?_
 subst e
 rcases hN with hN| hN
 ·omega
 ·obtain⟨o2,h3,h4⟩:=hc A hA b hN
  rw[h1] at h3
  cases h3
  rw[h2] at h4
  cases h4
theorem aG8{F:Fence}{n:Nat}{P:Program}{g:Operand}{ps:Array Tmp}{assign body:Code}{Q:Exit→Act→World→Prop}{a:Act}{w:World}
  (hro:F.round=none) (h1:1≤n) {gf:Nat} {lb:Array Value} (hg:a.eval g=.func (.func gf) #[] lb) (hFg:F.fn gf) (eg:∀args w,(callFunc gf args).run P w=.ok (.enter gf args) w)
  {α:Type} (xs:List α) (Arg:List α→(Nat→Prop)→α→Array Value→World→Prop) (hps:∀pre O x ar A,Arg pre O x ar A→ar.size=ps.size)
  (I:List α→(Nat→Prop)→World→Prop) (hIl:∀pre O,aCI w.heap.size O (I pre O)) (hIc:∀pre O A,I pre O A→aDX O A)
  (Ix:World→Prop) (hXs:aK8 w.heap.size Ix)
  (O0:Nat→Prop) (h0:I [] O0 w)
  (hseq:∀(l:Nat) (J:List α→(Nat→Prop)→World→Prop) (Jx:World→Prop) (W:World),Below w.heap.size w W→(∀pre O,aCI W.heap.size O (J pre O))→aK8 W.heap.size Jx→(∀pre O A,J pre O A→aDX O A)→
   (∀pre O x ar A,J pre O A→Arg pre O x ar A→YieldAt F (n- 1- 1) P l ar A fun e B=>∃go,e=.returned (.bool go)∧Told J Jx O pre x A go B∧KeepsFrom W.heap.size A B)→J [] O0 W→
   CallsIn F (n- 1) P gf (#[.func (.yield l) #[] #[]]++lb) W fun e W'=>(∃v,e=.returned v)∧((∃O',J xs O' W')∨Jx W'))
  (Ax:List α→(Nat→Prop)→α→Array Value→Act→World→Prop) (hAs:∀pre O x ar a',aK8 w.heap.size (Ax pre O x ar a'))
  (hassign:∀(l:Nat) (pre:List α) (O:Nat→Prop) (x:α) (ar:Array Value) (A:World) (K:Act→World→Prop),Arg pre O x ar A→(∀a' B,Below A.heap.size A B→Ax pre O x ar a' B→K a' B)→
   assign.wpIn (F.inRound l) (n- 1- 1) P (Exit.then K (fun _ _ _=>False)) { tmps:=(ps.zip ar).foldl (fun t (p,v)=>t.setIfInBounds p v) a.tmps,defers:=[] } A)
  (hbody:∀(l:Nat) (pre:List α) (O:Nat→Prop) (x:α) (ar:Array Value) (a':Act) (A:World),I pre O A→Ax pre O x ar a' A→
   body.wpIn (F.inRound l) (n- 1- 1) P (fun e _ B=>KeepsFrom w.heap.size A B∧((e=.normal∧Told I Ix O pre x A true B)∨(e=.ret∧Told I Ix O pre x A false B))) a' A)
  (hdone:∀(D:Nat) (O:Nat→Prop) (W:World),w.heap.size≤D→I xs O W→W.heap[D]?=some (.deferred (some []))→Q .normal { a with defers:={ target:=.collected D,args:=#[] }::a.defers } W)
  (hstop:∀(D:Nat) (W:World),w.heap.size≤D→Ix W→W.heap[D]?=some (.deferred (some []))→Code.ret.wpIn F n P Q { a with defers:={ target:=.collected D,args:=#[] }::a.defers } W):
  (Code.rangeFunc g ps assign body).wpIn F n P Q a w:=by
 have hIs:∀pre O,aK8 w.heap.size (I pre O):=fun pre O=>(hIl pre O).still (hIc pre O)
 have hIg:∀pre O,aO0 (I pre O):=fun pre O=>(hIl pre O).grows
 refine wpIn_rangeFunc fun fn hfn=>?_
 rw[hro]
 obtain⟨rec,hrec⟩:∃rec:LoopState→Option Code→Loop,rec=fun st pe=>{ state:=st,pending:=pe,fn,tmps:=a.tmps,params:=ps,assign,body,defers:=w.heap.size }:=⟨_,rfl⟩
 obtain⟨X,hX⟩:∃X,X=(w.alloc (.deferred (some []))).alloc (.loop (rec .ready none)):=⟨_,rfl⟩
 have bX:Below w.heap.size w X:=by rw[hX];exact((Below.refl _ w).alloc (Nat.le_refl _) _).alloc (by simp) _
 have zX:X.heap.size=w.heap.size+2:=by rw[hX];simp
 have lX:X.heap[w.heap.size+1]?=some (.loop (rec .ready none)):=by
  rw[hX];have:=World.alloc_heap_new (w.alloc (.deferred (some []))) (.loop (rec .ready none));rwa [World.size_alloc] at this
 have dX:X.heap[w.heap.size]?=some (.deferred (some [])):=by
  rw[hX];exact(Below.heap_alloc _ _ _ (by simp)).trans (World.alloc_heap_new w _)
 refine⟨w.heap.size+1,[{ target:=.collected w.heap.size,args:=#[] }],X,{ target:=.fn (.func gf) lb,args:=#[.func (.yield (w.heap.size+1)) #[] #[]] },X,gf,
  #[.func (.yield (w.heap.size+1)) #[] #[]]++lb,X,?_,?_,?_,?_,fun _=>h1,?_⟩
 ·rw[hX,hrec];exact run_enterLoop_outer _ _ _ _ _
 ·simp only[resolve,hg]
  simp[go_sem]
 ·intro f' hf';simp[Target.leads] at hf';subst hf';exact hFg
 ·simp[invoke,go_sem,eg]
 ·have key:∀{A B:World},Below A.heap.size A B→∀{b:Nat} {o:Obj},A.heap[b]?=some o→B.heap[b]?=some o:=by
   intro A B h b o hb
   exact(h.block b (Array.getElem?_eq_some_iff.1 hb).1).trans hb
  refine(hseq (w.heap.size+1) (fun pre O W=>I pre O W∧W.heap[w.heap.size+1]?=some (.loop (rec .ready none))∧W.heap[w.heap.size]?=some (.deferred (some [])))
   (fun W=>Ix W∧W.heap[w.heap.size+1]?=some (.loop (rec .done (some .ret)))∧W.heap[w.heap.size]?=some (.deferred (some []))) X bX
   (fun pre O A B h h1 h2 h3 h4 h5=>⟨hIl pre O A B h.1 h1 h2 h3 h4 (fun b hb hN=>h5 b hb (hN.imp (fun h=>by omega) id)),(h5 _ (Array.getElem?_eq_some_iff.1 h.2.1).1 (Or.inl (by omega))).trans h.2.1,(h5 _ (Array.getElem?_eq_some_iff.1 h.2.2).1 (Or.inl (by omega))).trans h.2.2⟩)
   (fun A l' o o' h hl' ho1 ho2=>⟨hXs A l' o o' h.1 (by have:=bX.size;omega) ho1 ho2,(World.putObj_heap_other (by omega)).trans h.2.1,(World.putObj_heap_other (by omega)).trans h.2.2⟩) (fun pre O A h=>hIc pre O A h.1) ?_ ⟨hIg [] O0 w X h0 bX,lX,dX⟩).mono ?_
  ·rintro pre O x ar W ⟨hi,hl,hd⟩ harg
   have hy:=run_yield (P:=P) (args:=ar) hl (by rw[hrec];exact hps pre O x ar W harg)
   rw[hrec] at hy
   refine⟨fn,_,assign,body,hy,roundIn_of_wpIn hfn (hassign _ pre O x ar W _ harg fun a' B hAB hax=>?_)⟩
   have lB:=key hAB hl
   have dB:=key hAB hd
   have hlt:w.heap.size+1<B.heap.size:=(Array.getElem?_eq_some_iff.1 lB).1
   have hlt0:w.heap.size<B.heap.size:=by omega
   refine⟨_,run_beginRound lB (by rw[hrec]),?_⟩
   obtain⟨Y,hY⟩:∃Y,Y=B.putObj (w.heap.size+1) (.loop { rec .ready none with state:=.busy }):=⟨_,rfl⟩
   have lY:Y.heap[w.heap.size+1]?=some (.loop { rec .ready none with state:=.busy }):=by rw[hY];exact World.putObj_heap_same hlt
   have dY:Y.heap[w.heap.size]?=some (.deferred (some [])):=by rw[hY];exact(World.putObj_heap_other (by omega)).trans dB
   have zY:Y.heap.size=B.heap.size:=by rw[hY];simp
   have kY:aBL O W Y:=by rw[hY];exact(aBL.below hAB).trans (aBL.putObj lB rfl _)
   have iY:I pre O Y:=by rw[hY];exact hIs pre O _ _ _ _ (hIg pre O _ _ hi hAB) (by omega) lB rfl
   have aY:Ax pre O x ar a' Y:=by rw[hY];exact hAs pre O x ar a' _ _ _ _ hax (by omega) lB rfl
   rw[←hY]
   refine wpIn_mono (hbody _ pre O x ar a' Y iY aY) ?_
   rintro e a3 Z ⟨hk3,hp⟩
   have lZ:=hk3.same _ _ (by omega) lY rfl
   have dZ:=hk3.same _ _ (by omega) dY rfl
   have hzl:w.heap.size+1<Z.heap.size:=(Array.getElem?_eq_some_iff.1 lZ).1
   have hkf:∀o',KeepsFrom X.heap.size W (Z.putObj (w.heap.size+1) o'):=fun o'=>by
    refine⟨by have:=hAB.size;have:=hk3.size;simp;omega,fun k o hk ho hc=>?_⟩
    rw[World.putObj_heap_other (by omega)]
    refine hk3.same k o (by omega) ?_ hc
    rw[hY,World.putObj_heap_other (by omega)]
    exact key hAB ho
   rcases hp with⟨rfl,hT⟩| ⟨rfl,hT⟩
   ·rcases hT with⟨-,O',i3,k3,o3⟩| ⟨h,-⟩
    ·have hr:=run_endRound (P:=P) none lZ
     refine⟨_,_,hr,true,rfl,Or.inl ⟨rfl,O',⟨hIs _ _ _ _ _ _ i3 (by omega) lZ rfl,?_,(World.putObj_heap_other (by omega)).trans dZ⟩,(kY.trans k3).trans (aBL.putObj lZ rfl _),fun b hb=>(o3 b hb).imp id fun h=>?_⟩,hkf _⟩
     ·rw[hrec];exact World.putObj_heap_same hzl
     ·have:=hAB.size;omega
    ·cases h
   ·rcases hT with⟨h,-⟩| ⟨-,i3⟩
    ·cases h
    ·have hr:=run_endRound (P:=P) (some .ret) lZ
     refine⟨_,_,hr,false,rfl,Or.inr ⟨rfl,hXs _ _ _ _ i3 (by omega) lZ rfl,?_,(World.putObj_heap_other (by omega)).trans dZ⟩,hkf _⟩
     rw[hrec];exact World.putObj_heap_same hzl
  ·rintro e W ⟨⟨v,rfl⟩,hfin⟩
   rcases hfin with⟨O',hi,hl,hd⟩| ⟨hi,hl,hd⟩
   ·exact⟨none,_,by have:=run_endLoop (P:=P) hl (by rw[hrec];simp);rw[hrec] at this;exact this,hdone w.heap.size O' _ (Nat.le_refl _) (hIs _ _ _ _ _ _ hi (by omega) hl rfl) ((World.putObj_heap_other (by omega)).trans hd)⟩
   ·exact⟨some .ret,_,by have:=run_endLoop (P:=P) hl (by rw[hrec];simp);rw[hrec] at this;exact this,hstop w.heap.size _ (Nat.le_refl _) (hXs _ _ _ _ hi (by omega) hl rfl) ((World.putObj_heap_other (by omega)).trans hd)⟩
end Go.Proofs.YtokmgbidmnanpaaGreatDoor
namespace Go.Proofs.YtokmgbidmnanpaaGreatDoor
open Go.RowKit Go.Shelf
theorem aIG{l n:Nat}{P:Program}{o:Oper}{a:Act}{K K':Act→World→Prop}{Q:Exit→Act→World→Prop}(hK:∀a w,K a w→K' a w)(r:Result Next)(h:o.upon P a K Q r):o.uponIn (Fence.wide.inRound l) n P a K' Q r:=by
 match r,h with
 | .ok (.value v) w',h=>exact hK _ _ h
 | .ok .skip w',h=>exact hK _ _ h
 | .ok (.defer d) w',h=>exact hK _ _ h
 | .ok (.enter f args) w',h=>
  have h2:CallsIn Fence.wide (n- 1) P f args w' _:=callsIn_wide.2 h
  refine⟨(fun h=>by cases h),h2.mono ?_⟩
  intro e w'' he
  cases e with
  |returned v=>exact hK _ _ he
  |panicked c=>exact he
  |outgrown=>exact he
 | .ok (.row row args) w',h=>
  refine⟨(fun h=>by cases h),fun c cs _=>?_⟩
  obtain⟨v,w2,r,s⟩:=h c cs
  exact⟨v,w2,hK _ _ r,stepsIn_wide.2 s⟩
 | .halt (.panic v) w',h=>exact h
theorem aGF{l n:Nat}{P:Program}{md:Region.Mode}{ops:Array Oper}{Q:Exit→Act→World→Prop}(hL:¬LetsOut Q)(hd:∀(i:Nat) (o:Oper) c,ops[i]?=some o→o.op≠ .defer c):
  ∀(fuel:Nat) (listed:Array Bool) (a:Act) (w:World),wpAny P md ops Q fuel listed a w→wpAnyIn (Fence.wide.inRound l) n P md ops Q fuel listed a w
 |0,_,_,_,h=>h
 |fuel+1,listed,a,w,h=>⟨h.1,fun i hi=>by
  have h2:=h.2 i hi
  unfold wpOp at h2
  unfold wpOpIn
  cases ho:ops[i]? with
  |none=>
   simp only[ho] at h2 ⊢
   exact aGF hL hd fuel _ _ _ h2
  |some o=>
   simp only[ho] at h2 ⊢
   by_cases hw:Region.wanted o (yielded ops a.tmps)=true
   ·rw[if_pos hw] at h2 ⊢
    rcases h2 with h2| h2
    ·refine⟨fun f _=>trivial,?_⟩
     rw[Fence.inRound_round,Oper.semAt_some l _ _ (fun c=>hd i o c ho)]
     exact aIG (fun a w h=>aGF hL hd fuel _ a w h) _ h2
    ·exact absurd h2.2 hL
   ·rw[if_neg hw] at h2 ⊢
    exact⟨fun f _=>trivial,aGF hL hd fuel _ _ _ h2⟩⟩
def aU0:Op→Bool
 | .defer _=>true
 |_=>false
theorem aUY{ops:Array Oper}(h:(ops.toList.all fun o=>!aU0 o.op)=true)(i:Nat)(o:Oper)(c:Call)(ho:ops[i]?=some o):o.op≠ .defer c:=fun e=>by
 have hm:o∈ ops.toList:=by
  obtain⟨hi,rfl⟩:=Array.getElem?_eq_some_iff.1 ho
  exact Array.mem_toList_iff.2 (Array.getElem_mem hi)
 have:=List.all_eq_true.1 h o hm
 rw[e] at this
 simp[aU0] at this
theorem aE6{l n:Nat}{P:Program}{id:Nat}{ops:Array Oper}{Q:Exit→Act→World→Prop}{a:Act}{w:World}(S:World→Prop)(hm:P.follows .mixedOrders=true)(hL:¬LetsOut Q)(hd:(ops.toList.all fun o=>!aU0 o.op)=true)(hS:S w.drew)
  (h:S w.drew→wpAnyH P .any ops Q S ops.size (Array.replicate ops.size false) a w.drew):(Code.region id ops true).wpIn (Fence.wide.inRound l) n P Q a w:=
 wpIn_region_any hm (aGF hL (fun i o c ho=>aUY hd i o c ho) _ _ _ _ (wpAny_of_held _ _ _ _ (h hS)))
end Go.Proofs.YtokmgbidmnanpaaGreatDoor
