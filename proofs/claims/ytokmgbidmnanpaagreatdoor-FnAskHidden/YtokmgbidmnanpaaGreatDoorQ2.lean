import Derived.Test.YtokmgbidmnanpaaGreatDoorQ1
import Derived.BigRegion
import Derived.Deep.RegionWith
import Derived.RangeFuncNested
import Derived.RangeFuncBound
import Derived.RangeFuncCalls
import Derived.RangeFuncLeaves
import Derived.Shelf.Abstract
import Derived.Shelf.RegionOpen
import Derived.OwnWalkIn
import Derived.TacticsInMore
import Derived.LoopNIn
import Derived.LoopIn
import Derived.Deep.AppendLies
import Derived.Laws.AppendOwnNone
import Derived.Laws.EntriesVeiled
import Derived.Deep.QuietTactic
import Derived.BigQuiet
set_option linter.unusedSimpArgs false
set_option linter.unusedVariables false
namespace Go.Proofs.YtokmgbidmnanpaaGreatDoor
open Go.RowKit
end Go.Proofs.YtokmgbidmnanpaaGreatDoor
namespace Go.Proofs.YtokmgbidmnanpaaGreatDoor
open Go.RowKit
end Go.Proofs.YtokmgbidmnanpaaGreatDoor
namespace Go.Proofs.YtokmgbidmnanpaaGreatDoor
open Go.RowKit
def isT(s:ByteArray)(l:List UInt8):Bool:=s.toList==l
def aAF(s:ByteArray):Bool:=isT s [105,110,116]||isT s [116,101,120,116]||isT s [98,111,111,108]
set_option maxHeartbeats 400000 in
theorem aAS(s:ByteArray)(w:World):
  Calls Tryz.prog 109 #[.string s] w fun e w'=>e=.returned (.bool (aAF s))∧w=w':=by
 cases h1:(s.toList==[105,110,116])<;>cases h2:(s.toList==[116,101,120,116])<;>
 ·go_enter Tryz.func109,Tryz.ntmps109
  go_wp2
  go_ret
  exact⟨aA4 (by simp only[aAF,isT,h1,h2];rfl),rfl⟩
def aAO(s:ByteArray):Bool:=aE3 s&&decide (s.size≤8)&&!(aAH s 0==95)&&!aAF s&&!isT s [112,97,114,116]&&!isT s [116,121,112,101]&&!isT s [107,101,121]&&!isT s [102,97,114]&&!isT s [104,105,100,100,101,110]&&!isT s [115,104,97,114,101,100]&&!isT s [110,101,101,100,115]
set_option maxHeartbeats 1600000 in
theorem aCN(s:ByteArray)(w:World)(hs:s.size≤maxLen):
  Calls Tryz.prog 77 #[.string s] w fun e w'=>e=.returned (.bool (aAO s))∧w=w':=by
 cases hw:aE3 s
 ·go_enter Tryz.func77,Tryz.ntmps77
  go_wp2_with (first| (go_at_call 119;refine(aBW _ _ hs).mono ?_;rintro e w' ⟨rfl,rfl⟩)| (go_at_call 109;refine(aAS _ _).mono ?_;rintro e w' ⟨rfl,rfl⟩))
  go_ret
  exact⟨aA4 (by simp[aAO,isT,hw]),rfl⟩
 have h1:0<s.size:=by
  rw[aE3] at hw;simp only[Bool.and_eq_true,decide_eq_true_eq] at hw;omega
 have hb0:=aEQ s 0 h1
 by_cases h8:s.size≤8
 case neg=>
  have h8':¬(s.size:Int)≤8:=by omega
  go_enter Tryz.func77,Tryz.ntmps77
  go_wp2_with (first| (go_at_call 119;refine(aBW _ _ hs).mono ?_;rintro e w' ⟨rfl,rfl⟩)| (go_at_call 109;refine(aAS _ _).mono ?_;rintro e w' ⟨rfl,rfl⟩))
  go_ret
  exact⟨aA4 (by simp[aAO];omega),rfl⟩
 have H8:Hid (decide (s.size≤8)=true):=by show _=_;simpa using h8
 cases hu:(aAH s 0==95)
 case true=>
  have hu':(aAH s 0 !=95)=false:=by simp only[bne,hu];rfl
  go_enter Tryz.func77,Tryz.ntmps77
  go_wp2_with (first| (go_at_call 119;refine(aBW _ _ hs).mono ?_;rintro e w' ⟨rfl,rfl⟩)| (go_at_call 109;refine(aAS _ _).mono ?_;rintro e w' ⟨rfl,rfl⟩))
  go_ret
  exact⟨aA4 (by simp only[aAO,hu];simp),rfl⟩
 have hu':(aAH s 0 !=95)=true:=by simp only[bne,hu];rfl
 cases hc:aAF s
 case true=>
  go_enter Tryz.func77,Tryz.ntmps77
  go_wp2_with (first| (go_at_call 119;refine(aBW _ _ hs).mono ?_;rintro e w' ⟨rfl,rfl⟩)| (go_at_call 109;refine(aAS _ _).mono ?_;rintro e w' ⟨rfl,rfl⟩))
  go_ret
  exact⟨aA4 (by simp only[aAO,hc];simp),rfl⟩
 cases k0:(s.toList==[112,97,114,116])
 case true=>
  go_enter Tryz.func77,Tryz.ntmps77
  go_wp2_with (first| (go_at_call 119;refine(aBW _ _ hs).mono ?_;rintro e w' ⟨rfl,rfl⟩)| (go_at_call 109;refine(aAS _ _).mono ?_;rintro e w' ⟨rfl,rfl⟩))
  go_ret
  exact⟨aA4 (by simp only[aAO,isT,k0];simp),rfl⟩
 cases k1:(s.toList==[116,121,112,101])
 case true=>
  go_enter Tryz.func77,Tryz.ntmps77
  go_wp2_with (first| (go_at_call 119;refine(aBW _ _ hs).mono ?_;rintro e w' ⟨rfl,rfl⟩)| (go_at_call 109;refine(aAS _ _).mono ?_;rintro e w' ⟨rfl,rfl⟩))
  go_ret
  exact⟨aA4 (by simp only[aAO,isT,k1];simp),rfl⟩
 cases k2:(s.toList==[107,101,121])
 case true=>
  go_enter Tryz.func77,Tryz.ntmps77
  go_wp2_with (first| (go_at_call 119;refine(aBW _ _ hs).mono ?_;rintro e w' ⟨rfl,rfl⟩)| (go_at_call 109;refine(aAS _ _).mono ?_;rintro e w' ⟨rfl,rfl⟩))
  go_ret
  exact⟨aA4 (by simp only[aAO,isT,k2];simp),rfl⟩
 cases k3:(s.toList==[102,97,114])
 case true=>
  go_enter Tryz.func77,Tryz.ntmps77
  go_wp2_with (first| (go_at_call 119;refine(aBW _ _ hs).mono ?_;rintro e w' ⟨rfl,rfl⟩)| (go_at_call 109;refine(aAS _ _).mono ?_;rintro e w' ⟨rfl,rfl⟩))
  go_ret
  exact⟨aA4 (by simp only[aAO,isT,k3];simp),rfl⟩
 cases k4:(s.toList==[104,105,100,100,101,110])
 case true=>
  go_enter Tryz.func77,Tryz.ntmps77
  go_wp2_with (first| (go_at_call 119;refine(aBW _ _ hs).mono ?_;rintro e w' ⟨rfl,rfl⟩)| (go_at_call 109;refine(aAS _ _).mono ?_;rintro e w' ⟨rfl,rfl⟩))
  go_ret
  exact⟨aA4 (by simp only[aAO,isT,k4];simp),rfl⟩
 cases k5:(s.toList==[115,104,97,114,101,100])
 case true=>
  go_enter Tryz.func77,Tryz.ntmps77
  go_wp2_with (first| (go_at_call 119;refine(aBW _ _ hs).mono ?_;rintro e w' ⟨rfl,rfl⟩)| (go_at_call 109;refine(aAS _ _).mono ?_;rintro e w' ⟨rfl,rfl⟩))
  go_ret
  exact⟨aA4 (by simp only[aAO,isT,k5];simp),rfl⟩
 go_enter Tryz.func77,Tryz.ntmps77
 go_wp2_with (first| (go_at_call 119;refine(aBW _ _ hs).mono ?_;rintro e w' ⟨rfl,rfl⟩)| (go_at_call 109;refine(aAS _ _).mono ?_;rintro e w' ⟨rfl,rfl⟩))
 go_ret
 exact⟨aA4 (by simp only[aAO,isT,hw,H8.out,hu,hc,k0,k1,k2,k3,k4,k5];simp),rfl⟩
end Go.Proofs.YtokmgbidmnanpaaGreatDoor
namespace Go.Proofs.YtokmgbidmnanpaaGreatDoor
open Go.RowKit Go.Maps
theorem aJJ(fs:List F)(g:F)(i:Nat)(h:i<fs.length):fth (fs++[g]) i=fth fs i:=by
 simp[fth,List.getD_eq_getElem?_getD,List.getElem?_append_left h]
theorem aJE(fs:List F)(g:F):fth (fs++[g]) fs.length=g:=by
 simp[fth,List.getD_eq_getElem?_getD]
def aEE(C:Nat→Nat→Value)(n:Nat):List Value:=(List.range (n*3)).map fun j=>C (j / 3) (j % 3)
theorem aDV(C:Nat→Nat→Value)(n:Nat):(aEE C n).length=n*3:=by simp[aEE]
theorem aGS(C:Nat→Nat→Value)(n i j:Nat)(hi:i<n)(hj:j<3):(aEE C n)[i*3+j]?=some (C i j):=by
 have h1:i*3+j<n*3:=by omega
 have h2:(i*3+j) / 3=i:=by omega
 have h3:(i*3+j) % 3=j:=by omega
 simp[aEE,h1,h2,h3]
theorem aOY{L:List Value}{C:Nat→Nat→Value}{n:Nat}(hl:L.length=n*3)(h:∀i,i<n→∀j,j<3→L[i*3+j]?=some (C i j)):L=aEE C n:=by
 apply List.ext_getElem?
 intro x
 by_cases hx:x<n*3
 ·have e:x / 3*3+x % 3=x:=by omega
  have h1:=h (x / 3) (by omega) (x % 3) (Nat.mod_lt _ (by omega))
  have h2:=aGS C n (x / 3) (x % 3) (by omega) (Nat.mod_lt _ (by omega))
  rw[e] at h1 h2
  rw[h1,h2]
 ·rw[List.getElem?_eq_none (by omega),List.getElem?_eq_none (by rw[aDV];omega)]
theorem aRO(C:Nat→Nat→Value)(n i:Nat)(hi:i<n)(d:Nat→Value):
  (((aEE C n).set (i*3) (d 0)).set (i*3+1) (d 1)).set (i*3+2) (d 2)=aEE (fun a j=>if a=i then d j else C a j) n:=by
 apply aOY
 ·simp[aDV]
 ·intro a ha j hj
  have h0:=aGS C n a j ha hj
  by_cases e:a=i
  ·subst e
   rw[if_pos rfl]
   have hlen:(aEE C n).length=n*3:=aDV C n
   rcases j with _| _| _| j
   ·rw[List.getElem?_set_ne (by omega),List.getElem?_set_ne (by omega),Nat.add_zero,List.getElem?_set_self (by omega)]
   ·rw[List.getElem?_set_ne (by omega),List.getElem?_set_self (by simp[hlen];omega)]
   ·rw[List.getElem?_set_self (by simp[hlen];omega)]
   ·omega
  ·rw[if_neg e,List.getElem?_set_ne (by omega),List.getElem?_set_ne (by omega),List.getElem?_set_ne (by omega),h0]
theorem aQH(C:Nat→Nat→Value)(n:Nat)(d0 d1 d2:Value):aEE C n++[d0,d1,d2]=aEE (fun a j=>if a<n then C a j else[d0,d1,d2].getD j undef) (n+1):=by
 apply aOY
 ·simp[aDV];omega
 ·intro a ha j hj
  by_cases e:a<n
  ·rw[if_pos e,List.getElem?_append_left (by rw[aDV];omega),aGS _ _ _ _ e hj]
  ·have:a=n:=by omega
   subst this
   rw[if_neg e,List.getElem?_append_right (by rw[aDV];omega),aDV,Nat.add_sub_cancel_left]
   rcases j with _| _| _| j
   all_goals first| rfl| omega
theorem aH7(ts:List T)(g:T)(k i:Nat)(h:i≠k):tth (ts.set k g) i=tth ts i:=by
 simp[tth,List.getD_eq_getElem?_getD,List.getElem?_set_ne (Ne.symm h)]
theorem aHL(ts:List T)(g:T)(k:Nat)(h:k<ts.length):tth (ts.set k g) k=g:=by
 simp[tth,List.getD_eq_getElem?_getD,List.getElem?_set_self h]
theorem aGD(ts:List T)(g:T)(i:Nat)(h:i<ts.length):tth (ts++[g]) i=tth ts i:=by
 simp[tth,List.getD_eq_getElem?_getD,List.getElem?_append_left h]
theorem aEW(ts:List T)(g:T):tth (ts++[g]) ts.length=g:=by
 simp[tth,List.getD_eq_getElem?_getD]
end Go.Proofs.YtokmgbidmnanpaaGreatDoor
namespace Go.Proofs.YtokmgbidmnanpaaGreatDoor
open Go.RowKit
theorem aA0{q:Prop}(h:q):Hid q:=h
theorem aA1{W:World}{b:Nat}{cs:Array Value}{T:TypeId}(h:W.heap[b]?=some (.cells cs T (0,0)))(i:Nat)(hi:i<cs.size):W.cell? ⟨b,i,none⟩=some cs[i]∧W.frozen? ⟨b,i,none⟩=false:=by
 refine⟨?_,frozen_of_row W b i cs T h⟩
 rw[cell_of_row W b i cs T (0,0) h]
 simp[hi]
theorem aA3{w:World}{N:Nat}(c:Array Value)(T:TypeId)(h:w.heap.size=N):(w.alloc (.cells c T)).heap[N]?=some (.cells c T (0,0)):=by subst h;exact heap_alloc_new w _
theorem aA9{w:World}{N:Nat}{cs:Array Value}{T:TypeId}(h:w.heap[N]?=some (.cells cs T (0,0)))(i:Nat)(d:Value):(w.setCell ⟨N,i,none⟩ d).heap[N]?=some (.cells (cs.setIfInBounds i d) T (0,0)):=by
 show(w.heap.modify N _)[N]?=_
 rw[Array.getElem?_modify]
 simp[h]
end Go.Proofs.YtokmgbidmnanpaaGreatDoor
namespace Go.Proofs.YtokmgbidmnanpaaGreatDoor
open Go.RowKit Go.Shelf
theorem aBZ{B l:Nat}(W:World)(o:Obj)(h:B≤l):Below B W (W.putObj l o):=⟨rfl,rfl,rfl,by simp,fun k hk=>World.putObj_heap_other (by omega)⟩
structure aBL(O:Nat→Prop)(A B:World):Prop where
 size:A.heap.size≤B.heap.size
 cells:∀b o,¬O b→A.heap[b]?=some o→o.isCells=true→B.heap[b]?=some o
theorem aBL.refl(O:Nat→Prop)(A:World):aBL O A A:=⟨Nat.le_refl _,fun _ _ _ h _=>h⟩
theorem aBL.trans{O:Nat→Prop}{A B C:World}(h:aBL O A B)(k:aBL O B C):aBL O A C:=⟨Nat.le_trans h.size k.size,fun b o hb h1 h2=>k.cells b o hb (h.cells b o hb h1 h2) h2⟩
theorem aBL.below{O:Nat→Prop}{A B:World}(h:Below A.heap.size A B):aBL O A B:=⟨h.size,fun b o _ h1 _=>(h.block b (Array.getElem?_eq_some_iff.1 h1).1).trans h1⟩
theorem aBL.putObj{O:Nat→Prop}{l:Nat}{W:World}{o:Obj}(h:W.heap[l]?=some o)(ho:o.isCells=false)(o':Obj):aBL O W (W.putObj l o'):=⟨by simp,fun b o2 hb h1 h2=>by
 have hne:b≠l:=by intro e;rw[e,h] at h1;cases h1;rw[ho] at h2;cases h2
 exact(World.putObj_heap_other hne).trans h1⟩
def aK8(lo:Nat)(p:World→Prop):Prop:=∀A l o o',p A→lo≤l→A.heap[l]?=some o→o.isCells=false→p (A.putObj l o')
def aO0(p:World→Prop):Prop:=∀A B,p A→Below A.heap.size A B→p B
def Told{α:Type}(I:List α→(Nat→Prop)→World→Prop)(Ix:World→Prop)(O:Nat→Prop)(pre:List α)(x:α)(A:World)(go:Bool)(B:World):Prop:=
 (go=true∧∃O',I (pre++[x]) O' B∧aBL O A B∧∀b,O' b→O b∨A.heap.size≤b)∨(go=false∧Ix B)
theorem aQA{F:Fence}{n:Nat}{P:Program}{g:Operand}{ps:Array Tmp}{assign body:Code}{Q:Exit→Act→World→Prop}{a:Act}{w:World}
  (hro:F.round=none) (h1:1≤n) {gf:Nat} {lb:Array Value} (hg:a.eval g=.func (.func gf) #[] lb) (hFg:F.fn gf) (eg:∀args w,(callFunc gf args).run P w=.ok (.enter gf args) w)
  {α:Type} (xs:List α) (Arg:List α→α→Array Value→World→Prop) (hps:∀pre x ar A,Arg pre x ar A→ar.size=ps.size)
  (I:List α→(Nat→Prop)→World→Prop) (hIs:∀pre O,aK8 w.heap.size (I pre O)) (hIg:∀pre O,aO0 (I pre O)) (hIO:∀pre O A,I pre O A→∀b,O b→b<A.heap.size)
  (Ix:World→Prop) (hXs:aK8 w.heap.size Ix)
  (O0:Nat→Prop) (h0:I [] O0 w)
  (hseq:∀(l:Nat) (J:List α→(Nat→Prop)→World→Prop) (Jx:World→Prop) (W:World),Below w.heap.size w W→(∀pre O,aO0 (J pre O))→(∀pre O A,J pre O A→∀b,O b→b<A.heap.size)→
   (∀pre O x ar A,J pre O A→Arg pre x ar A→YieldAt F (n- 1- 1) P l ar A fun e B=>∃go,e=.returned (.bool go)∧Told J Jx O pre x A go B)→J [] O0 W→
   CallsIn F (n- 1) P gf (#[.func (.yield l) #[] #[]]++lb) W fun e W'=>(∃v,e=.returned v)∧((∃O',J xs O' W')∨Jx W'))
  (Ax:List α→α→Array Value→Act→World→Prop) (hAs:∀pre x ar a',aK8 w.heap.size (Ax pre x ar a'))
  (hassign:∀(l:Nat) (pre:List α) (x:α) (ar:Array Value) (A:World) (K:Act→World→Prop),Arg pre x ar A→(∀a' B,Below A.heap.size A B→Ax pre x ar a' B→K a' B)→
   assign.wpIn (F.inRound l) (n- 1- 1) P (Exit.then K (fun _ _ _=>False)) { tmps:=(ps.zip ar).foldl (fun t (p,v)=>t.setIfInBounds p v) a.tmps,defers:=[] } A)
  (hbody:∀(l:Nat) (pre:List α) (O:Nat→Prop) (x:α) (ar:Array Value) (a':Act) (A:World),I pre O A→Ax pre x ar a' A→
   body.wpIn (F.inRound l) (n- 1- 1) P (fun e _ B=>KeepsFrom w.heap.size A B∧((e=.normal∧Told I Ix O pre x A true B)∨(e=.ret∧Told I Ix O pre x A false B))) a' A)
  (hdone:∀(D:Nat) (O:Nat→Prop) (W:World),w.heap.size≤D→I xs O W→W.heap[D]?=some (.deferred (some []))→Q .normal { a with defers:={ target:=.collected D,args:=#[] }::a.defers } W)
  (hstop:∀(D:Nat) (W:World),w.heap.size≤D→Ix W→W.heap[D]?=some (.deferred (some []))→Code.ret.wpIn F n P Q { a with defers:={ target:=.collected D,args:=#[] }::a.defers } W):
  (Code.rangeFunc g ps assign body).wpIn F n P Q a w:=by
 refine wpIn_rangeFunc fun fn hfn=>?_
 rw[hro]
 obtain⟨rec,hrec⟩:∃rec:LoopState→Option Code→Loop,rec=fun st pe=>{ state:=st,pending:=pe,fn,tmps:=a.tmps,params:=ps,assign,body,defers:=w.heap.size }:=⟨_,rfl⟩
 obtain⟨X,hX⟩:∃X,X=(w.alloc (.deferred (some []))).alloc (.loop (rec .ready none)):=⟨_,rfl⟩
 have bX:Below w.heap.size w X:=by rw[hX];exact((Below.refl _ w).alloc (Nat.le_refl _) _).alloc (by simp) _
 have lX:X.heap[w.heap.size+1]?=some (.loop (rec .ready none)):=by
  rw[hX];have:=World.alloc_heap_new (w.alloc (.deferred (some []))) (.loop (rec .ready none));rwa [World.size_alloc] at this
 have dX:X.heap[w.heap.size]?=some (.deferred (some [])):=by
  rw[hX];exact(Below.heap_alloc _ _ _ (by simp)).trans (World.alloc_heap_new w _)
 refine⟨w.heap.size+1,[{ target:=.collected w.heap.size,args:=#[] }],X,{ target:=.fn (.func gf) lb,args:=#[.func (.yield (w.heap.size+1)) #[] #[]] },X,gf,
  #[.func (.yield (w.heap.size+1)) #[] #[]]++lb,X,?_,?_,?_,?_,fun _=>h1,?_⟩
 ·rw[hX,hrec];exact run_enterLoop_outer _ _ _ _ _
 ·simp only[resolve,hg]
  simp[go_sem]
 ·intro f' hf';simp[Target.leads] at hf';subst hf';exact hFg
 ·simp[invoke,go_sem,eg]
 ·have key:∀{A B:World},Below A.heap.size A B→∀{b:Nat} {o:Obj},A.heap[b]?=some o→B.heap[b]?=some o:=by
   intro A B h b o hb
   exact(h.block b (Array.getElem?_eq_some_iff.1 hb).1).trans hb
  refine(hseq (w.heap.size+1) (fun pre O W=>I pre O W∧W.heap[w.heap.size+1]?=some (.loop (rec .ready none))∧W.heap[w.heap.size]?=some (.deferred (some [])))
   (fun W=>Ix W∧W.heap[w.heap.size+1]?=some (.loop (rec .done (some .ret)))∧W.heap[w.heap.size]?=some (.deferred (some []))) X bX
   (fun pre O A B h hb=>⟨hIg pre O A B h.1 hb,key hb h.2.1,key hb h.2.2⟩) (fun pre O A h=>hIO pre O A h.1) ?_ ⟨hIg [] O0 w X h0 bX,lX,dX⟩).mono ?_
  ·rintro pre O x ar W ⟨hi,hl,hd⟩ harg
   have hy:=run_yield (P:=P) (args:=ar) hl (by rw[hrec];exact hps pre x ar W harg)
   rw[hrec] at hy
   refine⟨fn,_,assign,body,hy,roundIn_of_wpIn hfn (hassign _ pre x ar W _ harg fun a' B hAB hax=>?_)⟩
   have lB:=key hAB hl
   have dB:=key hAB hd
   have hlt:w.heap.size+1<B.heap.size:=(Array.getElem?_eq_some_iff.1 lB).1
   have hlt0:w.heap.size<B.heap.size:=by omega
   refine⟨_,run_beginRound lB (by rw[hrec]),?_⟩
   obtain⟨Y,hY⟩:∃Y,Y=B.putObj (w.heap.size+1) (.loop { rec .ready none with state:=.busy }):=⟨_,rfl⟩
   have lY:Y.heap[w.heap.size+1]?=some (.loop { rec .ready none with state:=.busy }):=by rw[hY];exact World.putObj_heap_same hlt
   have dY:Y.heap[w.heap.size]?=some (.deferred (some [])):=by rw[hY];exact(World.putObj_heap_other (by omega)).trans dB
   have zY:Y.heap.size=B.heap.size:=by rw[hY];simp
   have kY:aBL O W Y:=by rw[hY];exact(aBL.below hAB).trans (aBL.putObj lB rfl _)
   have iY:I pre O Y:=by rw[hY];exact hIs pre O _ _ _ _ (hIg pre O _ _ hi hAB) (by omega) lB rfl
   have aY:Ax pre x ar a' Y:=by rw[hY];exact hAs pre x ar a' _ _ _ _ hax (by omega) lB rfl
   rw[←hY]
   refine wpIn_mono (hbody _ pre O x ar a' Y iY aY) ?_
   rintro e a3 Z ⟨hk3,hp⟩
   have lZ:=hk3.same _ _ (by omega) lY rfl
   have dZ:=hk3.same _ _ (by omega) dY rfl
   have hzl:w.heap.size+1<Z.heap.size:=(Array.getElem?_eq_some_iff.1 lZ).1
   rcases hp with⟨rfl,hT⟩| ⟨rfl,hT⟩
   ·rcases hT with⟨-,O',i3,k3,o3⟩| ⟨h,-⟩
    ·have hr:=run_endRound (P:=P) none lZ
     refine⟨_,_,hr,true,rfl,Or.inl ⟨rfl,O',⟨hIs _ _ _ _ _ _ i3 (by omega) lZ rfl,?_,(World.putObj_heap_other (by omega)).trans dZ⟩,(kY.trans k3).trans (aBL.putObj lZ rfl _),fun b hb=>(o3 b hb).imp id fun h=>?_⟩⟩
     ·rw[hrec];exact World.putObj_heap_same hzl
     ·have:=hAB.size;omega
    ·cases h
   ·rcases hT with⟨h,-⟩| ⟨-,i3⟩
    ·cases h
    ·have hr:=run_endRound (P:=P) (some .ret) lZ
     refine⟨_,_,hr,false,rfl,Or.inr ⟨rfl,hXs _ _ _ _ i3 (by omega) lZ rfl,?_,(World.putObj_heap_other (by omega)).trans dZ⟩⟩
     rw[hrec];exact World.putObj_heap_same hzl
  ·rintro e W ⟨⟨v,rfl⟩,hfin⟩
   rcases hfin with⟨O',hi,hl,hd⟩| ⟨hi,hl,hd⟩
   ·exact⟨none,_,by have:=run_endLoop (P:=P) hl (by rw[hrec];simp);rw[hrec] at this;exact this,hdone w.heap.size O' _ (Nat.le_refl _) (hIs _ _ _ _ _ _ hi (by omega) hl rfl) ((World.putObj_heap_other (by omega)).trans hd)⟩
   ·exact⟨some .ret,_,by have:=run_endLoop (P:=P) hl (by rw[hrec];simp);rw[hrec] at this;exact this,hstop w.heap.size _ (Nat.le_refl _) (hXs _ _ _ _ hi (by omega) hl rfl) ((World.putObj_heap_other (by omega)).trans hd)⟩
end Go.Proofs.YtokmgbidmnanpaaGreatDoor
namespace Go.Proofs.YtokmgbidmnanpaaGreatDoor
open Go.RowKit
theorem aNN(ns:List ByteArray)(j:Nat)(u:Value)(h:(ns.map Value.string)[j]?=some u):j<ns.length∧u=.string (nth ns j):=by
 rw[List.getElem?_map] at h
 obtain⟨b,hb,rfl⟩:=Option.map_eq_some_iff.1 h
 obtain⟨hj,rfl⟩:=List.getElem?_eq_some_iff.1 hb
 exact⟨hj,by simp[nth,List.getD_eq_getElem?_getD,hj]⟩
set_option maxHeartbeats 400000 in
theorem aLJ(ns:List ByteArray)(a:Option Addr)(c:Nat)(w:World)(P:Nat→Prop)(hS:Strs w P ns a)(hb:16*ns.length≤140737488355328):
  Calls Tryz.prog 101 #[.slice a ns.length c] w fun e w'=>∃v:Value,e=.returned v∧w'.ownsRow w.heap.size 9 1 v ns.length (ns.map Value.string)∧Below w.heap.size w w':=by
 obtain⟨h1,h2,h3⟩:=hS
 obtain⟨i0,hi,hz0,hz1,hz2⟩:=info_parts aJW
 by_cases hn0:ns.length=0
 ·have hns:ns=[]:=by simpa using hn0
  subst hns
  cases a with
  |none=>
   go_enter Tryz.func101,Tryz.ntmps101
   go_wp2_with fail
   go_ret
   exact⟨_,rfl,World.ownsRow_nil _ _ _ _,Below.refl _ _⟩
  |some ad=>
   go_enter Tryz.func101,Tryz.ntmps101
   go_wp2_with fail
   go_ret
   exact⟨_,rfl,World.ownsRow_nil _ _ _ _,Below.refl _ _⟩
 ·obtain⟨b,off,rfl,_,hc⟩:=h1 (by intro e;simp[e] at hn0)
  clear h1
  go_enter Tryz.func101,Tryz.ntmps101
  go_wp2_with (at_builtin;refine wpList_append_lies _ rfl _ _ 29 rfl w.heap.size 9 i0 (.string ByteArray.empty) 1 16 Tryz.underlying29 hi hz0 hz1 hz2 rfl (by decide) (.slice none 0 0) 0 [] rfl (World.ownsRow_nil _ _ _ _) ⟨b,off,none⟩ ns.length c (ns.map Value.string) rfl (by simp) ?c1 ?c2 (by omega) ?c3 (by omega) (Nat.le_refl _) _ rfl ?_)
  case c1=>
   intro j u hj
   obtain⟨hj',rfl⟩:=aNN ns j u hj
   rw[Addr.add_lit]
   exact hc j hj'
  case c2=>
   intro u hu
   obtain⟨s,-,rfl⟩:=List.mem_map.1 hu
   rfl
  case c3=>omega
  intro g cap w' hown hgrow hat hlt
  have HO:=aA0 hown
  have HB:=aA0 ((Below.refl w.heap.size w).grown hgrow (Nat.le_refl _) (fun k hk=>by simp[Value.ownBlock] at hk))
  clear hown hgrow hat
  go_wp2_with fail
  go_ret
  exact⟨_,rfl,by simpa using HO.out,HB.out⟩
end Go.Proofs.YtokmgbidmnanpaaGreatDoor
namespace Go.Proofs.YtokmgbidmnanpaaGreatDoor
open Go.RowKit
def pk(b o n:Nat):Value:=.agg #[.pointer (some ⟨b,o,none⟩),.int .i64 n]
theorem aS7{b o n b' o' n':Nat}(h:pk b o n=pk b' o' n'):b=b'∧o=o'∧n=n':=by
 simp[pk] at h
 omega
def PK(w:World)(v:Value):Prop:=∃b o n,v=pk b o n∧aBK w b
theorem aOT:Tryz.prog.underlying 178=some (.struct (Tryz.prog.fieldsOf 178)):=by kernel_rfl
theorem aU6:Tryz.prog.stoodInHeld 178=false:=by kernel_rfl
theorem aMI:(Tryz.prog.fieldsOf 178).toList.map (fun f=>(f.name,f.type,f.offset))=[("first",130,0),("count",3,1)]:=by kernel_rfl
theorem aSL(w:World)(em:Bool)(a:Option Addr)(n:Int):(Instr.checkKey em 10000 178 (.agg #[.pointer a,.int .i64 n])).run Tryz.prog w=.ok () w:=by kernel_rfl
theorem aT3(w:World)(a:Option Addr)(n:Int):(part 130 #[.pointer a,.int .i64 n] 0).run Tryz.prog w=.ok (.pointer a) w:=by kernel_rfl
theorem aSY(w:World)(a:Option Addr)(n:Int):(part 3 #[.pointer a,.int .i64 n] 1).run Tryz.prog w=.ok (.int .i64 n) w:=by kernel_rfl
theorem aUS:Tryz.prog.underlying 130=some (.pointer 56):=by kernel_rfl
theorem aTS(w:World):(sizeOf 56).run Tryz.prog w=.ok 5 w:=by kernel_rfl
theorem aU9:Tryz.prog.underlying 3=some (.int .i64):=by kernel_rfl
theorem aLG(w:World)(a b:Addr)(n m:Int)(r:Bool)(h:(sameAddr a b).run Tryz.prog w=.ok r w):
  (Op.equal 178 (.agg #[.pointer (some a),.int .i64 n]) (.agg #[.pointer (some b),.int .i64 m])).run Tryz.prog w=.ok (r&&(n==m)) w:=by
 have hp0:∀d:Nat,(Op.equalIn (d+1) 130 (.pointer (some a)) (.pointer (some b))).run Tryz.prog w=.ok r w:=fun d=>by
  simp[Op.equalIn,run_underlying aUS,aTS,h,Result.andThen]
 have hp:(Op.equalIn 9999 130 (.pointer (some a)) (.pointer (some b))).run Tryz.prog w=.ok r w:=hp0 9998
 have hi:(Op.equalIn 9999 3 (.int .i64 n) (.int .i64 m)).run Tryz.prog w=.ok (n==m) w:=run_equalIn_int w 9998 3 .i64 .i64 n m aU9
 show(Op.equalIn (9999+1) _ _ _).run _ _=_
 rw[run_equalIn_agg w 9999 _ _ _ aOT aU6]
 obtain⟨f0,f1,hf⟩:∃f0 f1,(Tryz.prog.fieldsOf 178).toList=[f0,f1]:=by
  have h:=congrArg List.length aMI
  simp only[List.length_map] at h
  match (Tryz.prog.fieldsOf 178).toList,h with
  |[f0,f1],_=>exact⟨f0,f1,rfl⟩
 have hk:=aMI
 rw[hf] at hk ⊢
 simp only[List.map_cons,List.map_nil,List.cons.injEq,Prod.mk.injEq,and_true] at hk
 obtain⟨⟨n0,t0,o0⟩,n1,t1,o1⟩:=hk
 simp only[Op.eqFields,n0,t0,o0,n1,t1,o1]
 obtain⟨q,hq⟩:∃q,q=(n==m):=⟨_,rfl⟩
 rw[←hq] at hi ⊢
 cases r<;>cases q<;>simp[aT3,aSY,hp,hi,Result.andThen]
theorem keyK{w:World}{J:Value→Prop}(hJ:∀v,J v→PK w v):aRR Tryz.prog 178 J w where
 fields:=⟨_,aOT⟩
 check em v hv:=by obtain⟨b,o,n,rfl,_⟩:=hJ v hv;exact aSL w em _ _
 same v hv:=by
  obtain⟨b,o,n,rfl,_⟩:=hJ v hv
  have:=aLG w ⟨b,o,none⟩ ⟨b,o,none⟩ n n true (run_sameAddr_same w _)
  simpa[pk] using this
 differ u v hu hv hne:=by
  obtain⟨b,o,n,rfl,h1⟩:=hJ u hu
  obtain⟨b',o',n',rfl,h2⟩:=hJ v hv
  by_cases ha:(⟨b,o,none⟩:Addr)=⟨b',o',none⟩
  ·have hn:n≠n':=fun e=>hne (by rw[pk,pk,ha,e])
   have:=aLG w ⟨b,o,none⟩ ⟨b',o',none⟩ n n' true (by rw[ha];exact run_sameAddr_same w _)
   rw[pk,pk,this]
   have:((n:Int)==(n':Int))=false:=by simp;omega
   simp[this]
  ·have:=aLG w ⟨b,o,none⟩ ⟨b',o',none⟩ n n' false (aK0 ha h1 h2)
   rw[pk,pk,this];rfl
 stays v hv:=by
  obtain⟨b,o,n,rfl,_⟩:=hJ v hv
  simp[pk,Instr.sameBits]
set_option maxHeartbeats 400000 in
theorem aEX(w:World)(b o n c:Nat)(hn:0<n)(h72:72*n≤281474976710656):
  Calls Tryz.prog 125 #[.slice (some ⟨b,o,none⟩) n c] w fun e w'=>e=.returned (pk b o n)∧Below w.heap.size w w':=by
 have hni:(0:Int)<(n:Int):=by omega
 have hn0:¬(n:Int)=0:=by omega
 go_enter Tryz.func125,Tryz.ntmps125
 go_wp2_with fail
 refine bodyPost_ret (v:=pk b o n) (by simp[results,Tryz.results125,go_sem,pk]) rfl ⟨rfl,?_⟩
 exact aA2 _ _
end Go.Proofs.YtokmgbidmnanpaaGreatDoor
namespace Go.Proofs.YtokmgbidmnanpaaGreatDoor
open Go.RowKit
def aGV(ns:List ByteArray)(s:ByteArray)(n:Nat):Bool:=(List.range n).any fun i=>(nth ns i).toList==s.toList
theorem aQ1(ns:List ByteArray)(s:ByteArray)(n:Nat):aGV ns s (n+1)=(aGV ns s n||((nth ns n).toList==s.toList)):=by simp[aGV,List.range_succ]
theorem aSP{ns:List ByteArray}{s:ByteArray}{n i:Nat}(hi:i<n)(h:((nth ns i).toList==s.toList)=true):aGV ns s n=true:=by
 unfold aGV
 rw[List.any_eq_true]
 exact⟨i,List.mem_range.2 hi,h⟩
def hasB(ns:List ByteArray)(s:ByteArray):Bool:=aGV ns s ns.length
theorem aP3{ns:List ByteArray}{s:ByteArray}:hasB ns s=true↔s.toList∈ ns.map ByteArray.toList:=by
 unfold hasB aGV
 rw[List.any_eq_true]
 constructor
 ·rintro⟨i,hi,h⟩
  rw[List.mem_range] at hi
  rw[beq_iff_eq] at h
  rw[←h]
  exact List.mem_map.2 ⟨_,by simp[nth,List.getD_eq_getElem?_getD,hi],rfl⟩
 ·intro h
  obtain⟨t,ht,e⟩:=List.mem_map.1 h
  obtain⟨i,hi,rfl⟩:=List.mem_iff_getElem.1 ht
  refine⟨i,List.mem_range.2 hi,?_⟩
  rw[beq_iff_eq,←e]
  simp[nth,List.getD_eq_getElem?_getD,hi]
set_option maxHeartbeats 800000 in
theorem aNF(ns:List ByteArray)(s:ByteArray)(a:Option Addr)(c:Nat)(w:World)(P:Nat→Prop)(hS:Strs w P ns a):
  Calls Tryz.prog 28 #[.slice a ns.length c,.string s] w fun e w'=>e=.returned (.bool (hasB ns s))∧Below w.heap.size w w':=by
 obtain⟨h1,h2,h3⟩:=hS
 unfold maxLen at h3
 have HH:Hid (hasB ns s=aGV ns s ns.length):=rfl
 have HA:Hid (∀i,i<ns.length→∃b off,a=some ⟨b,off,none⟩∧w.cell? ⟨b,off+i,none⟩=some (.string (nth ns i))):=fun i hi=>by
  obtain⟨b,off,e,-,hc⟩:=h1 (by intro e;simp[e] at hi)
  exact⟨b,off,e,hc i hi⟩
 have HS:Hid (∀i,aGV ns s (i+1)=(aGV ns s i||((nth ns i).toList==s.toList))):=fun i=>aQ1 ns s i
 have HT:Hid (∀i,i<ns.length→((nth ns i).toList==s.toList)=true→aGV ns s ns.length=true):=fun i hi h=>aSP hi h
 clear h1 h2
 obtain⟨n,hn⟩:∃n,n=ns.length:=⟨_,rfl⟩
 rw[←hn] at HH HA HT h3 ⊢
 clear hn
 go_enter Tryz.func28,Tryz.ntmps28
 go_wp2_with fail
 go_loopw [5] (fun i wr=>∃k:Nat,k≤n∧i=.int .i64 k∧Hid (aGV ns s k=false)∧wr=w) (fun i _=>n- (intOf i).toNat)
 case atStart=>exact⟨0,Nat.zero_le _,rfl,rfl,rfl⟩
 case round=>
  obtain⟨k,hk,rfl,HF,rfl⟩:=hrel
  by_cases hlt:k<n
  ·have hlti:(k:Int)<(n:Int):=by omega
   obtain⟨b,off,rfl,hck⟩:=HA.out k hlt
   cases hq:((nth ns k).toList==s.toList)
   ·have HN:Hid (aGV ns s (k+1)=false):=by show _=_;rw[HS.out,HF.out,hq];rfl
    go_wp2_with fail
    go_roundw
    case rel=>exact⟨k+1,by omega,by go_num,HN,trivial⟩
    case measure=>simp[intOf];omega
   ·have HN:Hid (aGV ns s n=true):=HT.out k hlt hq
    go_wp2_with fail
    go_ret
    exact⟨aA4 (by rw[HH.out,HN.out]),Below.refl _ _⟩
  ·have hlti:¬(k:Int)<(n:Int):=by omega
   have hkn:k=n:=by omega
   go_wp2_with fail
   go_ret
   exact⟨aA4 (by rw[HH.out,←hkn,HF.out]),Below.refl _ _⟩
end Go.Proofs.YtokmgbidmnanpaaGreatDoor
namespace Go.Proofs.YtokmgbidmnanpaaGreatDoor
open Go.RowKit
set_option maxHeartbeats 400000 in
theorem aOH(ns:List ByteArray)(a a':Option Addr)(c c':Nat)(w:World)(P P':Nat→Prop)(hS:Strs w P ns a)(hS':Strs w P' ns a'):
  Calls Tryz.prog 21 #[.slice a ns.length c,.slice a' ns.length c'] w fun e w'=>e=.returned (.bool true)∧∃n,w'=w.drewN n:=by
 obtain⟨h1,h2,h3⟩:=hS
 obtain⟨g1,-,-⟩:=hS'
 unfold maxLen at h3
 by_cases hn0:ns.length=0
 ·have hns:ns=[]:=by simpa using hn0
  subst hns
  go_enter Tryz.func21,Tryz.ntmps21
  go_wp2
  go_loop [5] (fun i=>i=.int .i64 0) (fun _=>0)
  case atStart=>rfl
  case round=>
   subst hrel
   go_wp2
   go_ret
   exact⟨rfl,0,rfl⟩
 ·obtain⟨b,off,rfl,_,hc⟩:=h1 (by intro e;simp[e] at hn0)
  obtain⟨b',off',rfl,_,hc'⟩:=g1 (by intro e;simp[e] at hn0)
  clear h1 h2 g1
  go_enter Tryz.func21,Tryz.ntmps21
  go_wp2
  go_loopw [5] (fun i wr=>∃k m:Nat,k≤ns.length∧i=.int .i64 k∧wr=w.drewN m) (fun i _=>ns.length- (intOf i).toNat)
  case atStart=>exact⟨0,0,Nat.zero_le _,rfl,rfl⟩
  case round=>
   obtain⟨k,m,hk,rfl,rfl⟩:=hrel
   by_cases hlt:k<ns.length
   ·have hck:=hc k hlt
    have hck':=hc' k hlt
    clear hc hc'
    go_wp2
    go_quiet (fail)
    go_wp2
    go_roundw
    case rel=>exact⟨k+1,_,by omega,by go_num,rfl⟩
    case measure=>simp[intOf];omega
   ·go_wp2
    go_ret
    exact⟨rfl,m,rfl⟩
end Go.Proofs.YtokmgbidmnanpaaGreatDoor
