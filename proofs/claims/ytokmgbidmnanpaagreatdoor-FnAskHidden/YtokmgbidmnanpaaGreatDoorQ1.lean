import Derived.Test.YtokmgbidmnanpaaGreatDoorProg
import Derived.RowKit
import Derived.Deep.RegionHeld3
import Derived.Deep.DeepCutAuto
import Derived.Test.YtokmgbidmnanpaaGreatDoorRows
import Derived.WalkKit
import Derived.WalkSpells
import Derived.WalkLawsBesides
import Derived.Deep.OwnRows
import Derived.Deep.QuietTactic
import Derived.BigQuiet
import Derived.Below
import Derived.Laws.IdiomStrings
import Derived.RowKit3
import Derived.Deep.Slices
import Derived.BigRegion
import Derived.Deep.RegionWith
import Derived.Shelf.Strconv.Itoa3
import Derived.Maps.OwnSet
import Derived.Maps.AppendAt
import Derived.LaidEql
import Derived.ProofKit
import Derived.SizedLaws
import Derived.SliceStrings
set_option linter.unusedSimpArgs false
set_option linter.unusedVariables false
namespace Go.Proofs.YtokmgbidmnanpaaGreatDoor
open Go.RowKit
section
variable {P:Program} {ops:Array Oper} {Q:Exit→Act→World→Prop} {md:Region.Mode} {S:World→Prop}
theorem tkH(i:Nat){oi:Oper}{v:Value}{fuel:Nat}{listed l':Array Bool}{a a':Act}{w:World}(hS:S w)(h:wpAnyH P md ops Q S fuel l' a' w)
  (hi:ops.toList[i]?=some oi:=by exact rfl) (hs:Region.noSelect ops=true:=by kernel_rfl) (hf:Region.free md ops listed i=true:=by kernel_rfl) (hr:(Region.ready md ops listed).contains i=true:=by kernel_rfl)
  (hw:Region.wanted oi (yielded ops a.tmps)=true:=by exact rfl)
  (hy:∀w',S w'→(execOp a.eval oi).run P w'=.ok (.value v) w':=by(intro w' hSw;(try dsimp only at hSw);go_simp;try with_reducible rfl))
  (hQ:∀c a w,Q (.panic c) (a.put oi.dst v) w→Q (.panic c) a w:=by exact fun _ _ _ h=>h)
  (ha:a.put oi.dst v=a':=by((try simp only[Act.put,List.setIfInBounds_toArray,List.set_cons_zero,List.set_cons_succ]);try rfl))
  (hl:listed.setIfInBounds i true=l':=by((try simp only[List.setIfInBounds_toArray,List.set_cons_zero,List.set_cons_succ]);try rfl)):wpAnyH P md ops Q S (fuel+1) listed a w:=by
 subst ha hl
 exact wpAnyH_take (by rw[←Array.getElem?_toList];exact hi) hs hf hr hQ (Or.inl ⟨hw,hy⟩) hS h
theorem tnH(i:Nat){oi:Oper}{fuel:Nat}{listed l':Array Bool}{a a':Act}{w:World}(hS:S w)(h:wpAnyH P md ops Q S fuel l' a' w)
  (hi:ops.toList[i]?=some oi:=by exact rfl) (hs:Region.noSelect ops=true:=by kernel_rfl) (hf:Region.free md ops listed i=true:=by kernel_rfl) (hr:(Region.ready md ops listed).contains i=true:=by kernel_rfl)
  (hw:Region.wanted oi (yielded ops a.tmps)=false:=by exact rfl)
  (hQ:∀c a w,Q (.panic c) (a.put oi.dst undef) w→Q (.panic c) a w:=by exact fun _ _ _ h=>h)
  (ha:a.put oi.dst undef=a':=by((try simp only[Act.put,List.setIfInBounds_toArray,List.set_cons_zero,List.set_cons_succ]);try rfl))
  (hl:listed.setIfInBounds i true=l':=by((try simp only[List.setIfInBounds_toArray,List.set_cons_zero,List.set_cons_succ]);try rfl)):wpAnyH P md ops Q S (fuel+1) listed a w:=by
 subst ha hl
 exact wpAnyH_take (by rw[←Array.getElem?_toList];exact hi) hs hf hr hQ (Or.inr ⟨hw,rfl⟩) hS h
theorem rdyH(rs:List Nat){fuel:Nat}{listed:Array Bool}{a:Act}{w:World}(h:AllReadyH P md ops Q S fuel listed a w rs)(hr:Region.ready md ops listed=rs:=by kernel_rfl)(hne:rs≠[]:=by simp):wpAnyH P md ops Q S (fuel+1) listed a w:=wpAnyH_ready hr hne h
theorem rcH{fuel:Nat}{listed:Array Bool}{a:Act}{w:World}{i:Nat}{o:Oper}{rs:List Nat}
  (h:∀K':Act→World→Prop,Shut (∀a w,S w→(S w→wpAnyH P md ops Q S fuel (listed.setIfInBounds i true) a w)→K' a w)→if Region.wanted o (yielded ops a.tmps)=true then Oper.wp P o a w K' Q else K' (a.put o.dst undef) w)
  (hs:AllReadyH P md ops Q S fuel listed a w rs) (ho:ops.toList[i]?=some o:=by exact rfl):AllReadyH P md ops Q S fuel listed a w (i::rs):=AllReadyH.cons (by rw[←Array.getElem?_toList];exact ho) h hs
end
end Go.Proofs.YtokmgbidmnanpaaGreatDoor
namespace Go.Proofs.YtokmgbidmnanpaaGreatDoor
open Go.RowKit
theorem aA4{a b:Bool}(h:a=b):Ending.returned (.bool a)=.returned (.bool b):=by rw[h]
theorem aB8{k:IntKind}{a b:Int}(h:a=b):Ending.returned (.int k a)=.returned (.int k b):=by rw[h]
def digB(c:Int):Bool:=decide (48≤c)&&decide (c≤57)
def wbB(c:Int):Bool:=decide (97≤c)&&decide (c≤122)||(c==95)||digB c
set_option maxHeartbeats 400000 in
theorem aG6(c:Int)(w:World):
  Calls Tryz.prog 155 #[.int .u8 c] w fun e w'=>e=.returned (.bool (digB c))∧w=w':=by
 by_cases h1:48≤c<;>by_cases h2:c≤57<;>
 ·go_enter Tryz.func155,Tryz.ntmps155
  go_wp2
  go_ret
  exact⟨by simp[digB,h1,h2],rfl⟩
set_option maxHeartbeats 400000 in
theorem aG2(c:Int)(w:World):
  Calls Tryz.prog 156 #[.int .u8 c] w fun e w'=>e=.returned (.bool (wbB c))∧w=w':=by
 by_cases h1:97≤c<;>by_cases h2:c≤122<;>by_cases h3:c=95<;>
 ·go_enter Tryz.func156,Tryz.ntmps156
  go_wp2_with (go_at_call 155;refine(aG6 _ _).mono ?_;rintro e w' ⟨rfl,rfl⟩)
  go_ret
  exact⟨aA4 (by grind [wbB]),rfl⟩
set_option maxHeartbeats 400000 in
theorem aGP(n lo hi:Int)(w:World):
  Calls Tryz.prog 87 #[.int .i64 n,.int .i64 lo,.int .i64 hi] w fun e w'=>e=.returned (.bool (decide (lo≤n)&&decide (n≤hi)))∧w=w':=by
 by_cases h1:lo≤n<;>by_cases h2:n≤hi<;>
 ·go_enter Tryz.func87,Tryz.ntmps87
  go_wp2
  go_ret
  exact⟨by simp[h1,h2],rfl⟩
def aAH(s:ByteArray)(i:Nat):Int:=((s.data.toList.getD i 0).toNat:Int)
theorem aS3(s:ByteArray)(i:Nat):0≤aAH s i∧aAH s i≤255:=by
 unfold aAH
 have:=(s.data.toList.getD i 0).toNat_lt
 omega
theorem aEQ(s:ByteArray)(i:Nat)(h:i<s.size):((s[i].toNat:Nat):Int)=aAH s i:=by
 unfold aAH
 have h':i<s.data.toList.length:=by simpa using h
 rw[List.getD_eq_getElem?_getD,List.getElem?_eq_getElem h']
 rfl
def aF5(s:ByteArray)(n:Nat):Bool:=(List.range n).all fun i=>wbB (aAH s i)
theorem aET(s:ByteArray)(n:Nat):aF5 s (n+1)=(aF5 s n&&wbB (aAH s n)):=by
 simp[aF5,List.range_succ]
theorem aMX(s:ByteArray)(n k:Nat)(hk:k<n)(h:wbB (aAH s k)=false):aF5 s n=false:=by
 rw[aF5,List.all_eq_false]
 exact⟨k,by simpa using hk,by simpa using h⟩
def aE3(s:ByteArray):Bool:=decide (1≤s.size)&&decide (s.size≤9)&&!digB (aAH s 0)&&aF5 s s.size
set_option maxHeartbeats 400000 in
theorem aQ8(s:ByteArray)(w:World)(hs:s.size≤maxLen):
  Calls Tryz.prog 135 #[.string s] w fun e w'=>e=.returned (.bool (aE3 s))∧w=w':=by
 unfold maxLen at hs
 by_cases h0:s.size=0
 ·have he:s.toList.isEmpty=true:=by
   have:s.toList.length=s.size:=by rw[ByteArray.toList_eq];simp
   rw[List.isEmpty_iff_length_eq_zero];omega
  go_enter Tryz.func135,Tryz.ntmps135
  go_wp2_with fail
  go_ret
  exact⟨aA4 (by rw[aE3];simp[h0]),rfl⟩
 have he:s.toList.isEmpty=false:=by
  have:s.toList.length=s.size:=by rw[ByteArray.toList_eq];simp
  rw[Bool.eq_false_iff,Ne,List.isEmpty_iff_length_eq_zero];omega
 by_cases hl:s.size≤9
 ·have hp:0<s.size:=by omega
  have hb0:=aEQ s 0 hp
  by_cases hd:digB (aAH s 0)=true
  ·go_enter Tryz.func135,Tryz.ntmps135
   go_wp2_with (go_at_call 155;refine(aG6 _ _).mono ?_;rintro e w' ⟨rfl,rfl⟩)
   go_ret
   exact⟨aA4 (by rw[aE3];simp[hd]),rfl⟩
  ·have hd':digB (aAH s 0)=false:=by simpa using hd
   clear hd
   go_enter Tryz.func135,Tryz.ntmps135
   go_wp2_with (go_at_call 155;refine(aG6 _ _).mono ?_;rintro e w' ⟨rfl,rfl⟩)
   go_loop [3] (fun i=>∃k:Nat,k≤s.size∧i=.int .i64 k∧aF5 s k=true) (fun i=>s.size- (intOf i).toNat)
   case atStart=>exact⟨0,Nat.zero_le _,rfl,rfl⟩
   case round=>
    obtain⟨k,hk,rfl,hp⟩:=hrel
    have HP:Hid (aF5 s k=true):=hp
    clear hp
    by_cases hlt:k<s.size
    ·have hb:=aEQ s k hlt
     cases hw:wbB (aAH s k)
     ·go_wp2_with (go_at_call 156;refine(aG2 _ _).mono ?_;rintro e w' ⟨rfl,rfl⟩)
      go_ret
      exact⟨aA4 (by rw[aE3,aMX s _ k hlt hw];simp),rfl⟩
     ·go_wp2_with (go_at_call 156;refine(aG2 _ _).mono ?_;rintro e w' ⟨rfl,rfl⟩)
      go_round
      case rel=>exact⟨k+1,by omega,by go_num,by rw[aET,HP.out,hw];rfl⟩
      case measure=>simp[intOf];omega
    ·go_wp2_with fail
     go_ret
     have e:k=s.size:=by omega
     exact⟨aA4 (by rw[aE3,hd',←e,HP.out];simp;omega),rfl⟩
 ·go_enter Tryz.func135,Tryz.ntmps135
  go_wp2_with fail
  go_ret
  exact⟨aA4 (by rw[aE3];simp;omega),rfl⟩
def nbB(i:Nat)(c:Int):Bool:=decide (97≤c)&&decide (c≤122)||(c==95)||(decide (0<i)&&digB c)
def aFW(s:ByteArray)(n:Nat):Bool:=(List.range n).all fun i=>nbB i (aAH s i)
theorem aE1(s:ByteArray)(n:Nat):aFW s (n+1)=(aFW s n&&nbB n (aAH s n)):=by
 simp[aFW,List.range_succ]
theorem aM4(s:ByteArray)(n k:Nat)(hk:k<n)(h:nbB k (aAH s k)=false):aFW s n=false:=by
 rw[aFW,List.all_eq_false]
 exact⟨k,by simpa using hk,by simpa using h⟩
theorem aNL(s:ByteArray)(n:Nat):aFW s (n+1)=(!digB (aAH s 0)&&aF5 s (n+1)):=by
 induction n with
 |zero=>
  rw[aE1,aET]
  simp only[aFW,aF5,List.range_zero,List.all_nil,Bool.true_and,nbB,wbB]
  generalize aAH s 0=c
  rw[Bool.eq_iff_iff];simp[digB];omega
 |succ n ih=>
  rw[aE1,ih,aET s (n+1),Bool.and_assoc]
  simp[nbB,wbB]
theorem aMM(s:ByteArray)(h:1≤s.size):aFW s s.size=(!digB (aAH s 0)&&aF5 s s.size):=by
 obtain⟨n,hn⟩:∃n,s.size=n+1:=⟨s.size- 1,by omega⟩
 rw[hn];exact aNL s n
set_option maxHeartbeats 400000 in
theorem aBW(s:ByteArray)(w:World)(hs:s.size≤maxLen):
  Calls Tryz.prog 119 #[.string s] w fun e w'=>e=.returned (.bool (aE3 s))∧w=w':=by
 unfold maxLen at hs
 by_cases hin:1≤s.size∧s.size≤9
 ·have hin':(decide ((1:Int)≤s.size)&&decide ((s.size:Int)≤9))=true:=by simp;omega
  go_enter Tryz.func119,Tryz.ntmps119
  go_wp2_with (go_at_call 87;refine(aGP _ _ _ _).mono ?_;rw[hin'];rintro e w' ⟨rfl,rfl⟩)
  go_loop [3] (fun i=>∃k:Nat,k≤s.size∧i=.int .i64 k∧aFW s k=true) (fun i=>s.size- (intOf i).toNat)
  case atStart=>exact⟨0,Nat.zero_le _,rfl,rfl⟩
  case round=>
   obtain⟨k,hk,rfl,hp⟩:=hrel
   have HP:Hid (aFW s k=true):=hp
   clear hp hin'
   by_cases hlt:k<s.size
   ·have hb:=aEQ s k hlt
    have hbd:=aS3 s k
    have fin0:nbB k (aAH s k)=false→aE3 s=false:=fun h=>by
     have h1:=aM4 s s.size k hlt h
     rw[aMM s (by omega)] at h1
     rw[aE3];simp only[Bool.and_assoc];rw[h1];simp
    have FIN0:Hid (nbB k (aAH s k)=false→aE3 s=false):=fin0
    clear fin0
    by_cases h1:97≤aAH s k∧aAH s k≤122
    ·obtain⟨h1,h2⟩:=h1
     go_wp2_with fail
     go_round
     case rel=>exact⟨k+1,by omega,by go_num,by rw[aE1,HP.out];simp[nbB,h1,h2]⟩
     case measure=>simp[intOf];omega
    ·by_cases h3:aAH s k=95
     ·have h1':aAH s k<97:=by omega
      have T:(aAH s k==95)=true:=by simp[h3]
      have N:Hid (nbB k (aAH s k)=true):=by show _=_;simp[nbB,h3]
      clear h1 h3
      go_wp2_with fail
      go_round
      case rel=>exact⟨k+1,by omega,by go_num,by rw[aE1,HP.out,N.out];rfl⟩
      case measure=>simp[intOf];omega
     ·have T:(aAH s k==95)=false:=by simp[h3]
      by_cases hk0:k=0
      ·have N:Hid (nbB k (aAH s k)=false):=by show _=_;grind [nbB]
       have hk0':(k:Int)≤0:=by omega
       clear hk0 h3
       have h1':aAH s k<97∨(97≤aAH s k∧122<aAH s k):=by omega
       clear h1
       rcases h1' with h1'| ⟨h1',h1''⟩
       ·go_wp2_with fail
        go_ret
        exact⟨aA4 (FIN0.out N.out).symm,rfl⟩
       ·have D:decide (aAH s k≤122)=false:=by simp;omega
        go_wp2_with fail
        go_ret
        exact⟨aA4 (FIN0.out N.out).symm,rfl⟩
      ·have hk0':(0:Int)<(k:Int):=by omega
       by_cases hd:48≤aAH s k∧aAH s k≤57
       ·have N:Hid (nbB k (aAH s k)=true):=by show _=_;simp[nbB,digB];omega
        obtain⟨hd1,hd2⟩:=hd
        have h1':aAH s k<97:=by omega
        clear h1 h3
        go_wp2_with fail
        go_round
        case rel=>exact⟨k+1,by omega,by go_num,by rw[aE1,HP.out,N.out];rfl⟩
        case measure=>simp[intOf];omega
       ·have N:Hid (nbB k (aAH s k)=false):=by show _=_;grind [nbB,digB]
        have h1':aAH s k<48∧aAH s k<97∨(48≤aAH s k∧57<aAH s k∧aAH s k<97)∨(97≤aAH s k∧122<aAH s k∧48≤aAH s k∧57<aAH s k):=by omega
        clear h1 hd h3
        rcases h1' with⟨a1,a2⟩| ⟨a1,a2,a3⟩| ⟨a1,a2,a3,a4⟩
        ·go_wp2_with fail
         go_ret
         exact⟨aA4 (FIN0.out N.out).symm,rfl⟩
        ·have D:decide (aAH s k≤57)=false:=by simp;omega
         go_wp2_with fail
         go_ret
         exact⟨aA4 (FIN0.out N.out).symm,rfl⟩
        ·have D:decide (aAH s k≤57)=false:=by simp;omega
         have D':decide (aAH s k≤122)=false:=by simp;omega
         go_wp2_with fail
         go_ret
         exact⟨aA4 (FIN0.out N.out).symm,rfl⟩
   ·go_wp2_with fail
    go_ret
    have e:k=s.size:=by omega
    exact⟨aA4 (by have h1:=aMM s (by omega);rw[←e] at h1;rw[HP.out] at h1;rw[aE3];simp only[Bool.and_assoc];rw[←e,←h1];simp;omega),rfl⟩
 ·have hin':(decide ((1:Int)≤s.size)&&decide ((s.size:Int)≤9))=false:=by simp;omega
  go_enter Tryz.func119,Tryz.ntmps119
  go_wp2_with (go_at_call 87;refine(aGP _ _ _ _).mono ?_;rw[hin'];rintro e w' ⟨rfl,rfl⟩)
  go_ret
  exact⟨aA4 (by rw[aE3];simp;omega),rfl⟩
end Go.Proofs.YtokmgbidmnanpaaGreatDoor
namespace Go.Proofs.YtokmgbidmnanpaaGreatDoor
open Go.RowKit
def nth(ns:List ByteArray)(i:Nat):ByteArray:=ns.getD i ByteArray.empty
def Strs(w:World)(P:Nat→Prop)(ns:List ByteArray)(a:Option Addr):Prop:=
 (ns≠[]→∃b off,a=some ⟨b,off,none⟩∧P b∧∀i,i<ns.length→w.cell? ⟨b,off+i,none⟩=some (.string (nth ns i)))∧
 (∀i,(nth ns i).size≤maxLen)∧ns.length≤maxLen
theorem Strs.mono{w w':World}{P:Nat→Prop}{ns:List ByteArray}{a:Option Addr}(h:Strs w P ns a)(e:∀k,P k→w'.heap[k]?=w.heap[k]?):Strs w' P ns a:=by
 refine⟨fun hn=>?_,h.2⟩
 obtain⟨b,off,ha,hP,hc⟩:=h.1 hn
 exact⟨b,off,ha,hP,fun i hi=>(World.cell?_of_block (w:=w) (a:=⟨b,off+i,none⟩) (e b hP)).trans (hc i hi)⟩
theorem Strs.sub{w:World}{P Q:Nat→Prop}{ns:List ByteArray}{a:Option Addr}(h:Strs w P ns a)(e:∀k,P k→Q k):Strs w Q ns a:=by
 refine⟨fun hn=>?_,h.2⟩
 obtain⟨b,off,ha,hP,hc⟩:=h.1 hn
 exact⟨b,off,ha,e _ hP,hc⟩
theorem Strs.take{w:World}{P:Nat→Prop}{ns:List ByteArray}{a:Option Addr}(h:Strs w P ns a)(k:Nat):Strs w P (ns.take k) a:=by
 refine⟨fun hn=>?_,fun i=>?_,by have:=h.2.2;simp;omega⟩
 ·obtain⟨b,off,ha,hP,hc⟩:=h.1 (by intro e;simp[e] at hn)
  refine⟨b,off,ha,hP,fun i hi=>?_⟩
  have hi':i<k∧i<ns.length:=by simp at hi;omega
  rw[hc i hi'.2];simp[nth,List.getD_eq_getElem?_getD,List.getElem?_take,hi'.1]
 ·have:=h.2.1 i
  simp only[nth,List.getD_eq_getElem?_getD,List.getElem?_take] at this ⊢
  split
  ·exact this
  ·simp
def aDD(ns:List ByteArray)(n:Nat):Nat:=((List.range n).map fun i=>(nth ns i).size).sum
theorem aFS(ns:List ByteArray)(n:Nat):aDD ns (n+1)=aDD ns n+(nth ns n).size:=by
 simp[aDD,List.range_succ]
def szNs(ns:List ByteArray):Nat:=ns.length+aDD ns ns.length
end Go.Proofs.YtokmgbidmnanpaaGreatDoor
namespace Go.Proofs.YtokmgbidmnanpaaGreatDoor
open Go.RowKit
theorem aA2(w:World)(o:Obj):Below w.heap.size w (w.alloc o):=(Below.refl _ _).alloc (Nat.le_refl _) _
theorem aA5(w:World)(o p:Obj):Below w.heap.size w ((w.alloc o).alloc p):=(aA2 w o).alloc (by simp) _
theorem aAL{B:Nat}{a w:World}(h:Below B a w)(n:Nat):Below B a (w.drewN n):=⟨h.os,h.tape,h.output,h.size,h.block⟩
theorem aA6{w w':World}(h:Below w.drew.heap.size w.drew w'):Below w.heap.size w w':=⟨h.os,h.tape,h.output,h.size,h.block⟩
theorem Strs.under{w w':World}{B:Nat}{x:List ByteArray}{v:Option Addr}(h:Strs w (·<B) x v)(hb:Below B w w'):Strs w' (·<B) x v:=h.mono fun k hk=>hb.block k hk
theorem aAZ(w:World)(a:Addr)(v:Value):(w.setCell a v).heap.size=w.heap.size:=by simp[World.setCell]
def puts(w:World)(N:Nat):Nat→List Value→World
 |_,[]=>w
 |k,c::cs=>puts (w.setCell ⟨N,k,none⟩ c) N (k+1) cs
theorem aCX(N b:Nat)(h:b≠N):∀(cs:List Value) (w:World) (k:Nat),(puts w N k cs).heap[b]?=w.heap[b]?
 |[],_,_=>rfl
 |c::cs,w,k=>(aCX N b h cs _ (k+1)).trans (Below.heap_setCell _ _ _ _ h)
theorem aMA(N:Nat):∀(cs:List Value) (w:World) (k:Nat),(puts w N k cs).heap.size=w.heap.size
 |[],_,_=>rfl
 |c::cs,w,k=>(aMA N cs _ (k+1)).trans (aAZ _ _ _)
theorem aD2{a:World}{B N:Nat}(hN:B≤N):∀(cs:List Value) (w:World) (k:Nat),Below B a w→Below B a (puts w N k cs)
 |[],_,_,h=>h
 |c::cs,w,k,h=>aD2 hN cs _ (k+1) (h.setCell hN _)
theorem aID{N L:Nat}{e:TypeId}:∀(cs:List Value) {w:World} {G:Nat→Value} (k:Nat),w.rowIs N e L G→∃G':Nat→Value,(puts w N k cs).rowIs N e L G'∧(∀j,j<cs.length→G' (k+j)=cs.getD j undef)∧∀i,i<k→G' i=G i
 |[],_,G,k,h=>⟨G,h,fun j hj=>by simp at hj,fun i _=>rfl⟩
 |c::cs,w,G,k,h=>by
  obtain⟨G',h1,h2,h3⟩:=aID cs (k+1) (h.set k c)
  refine⟨G',h1,fun j hj=>?_,fun i hi=>?_⟩
  ·cases j with
   |zero=>rw[Nat.add_zero,h3 k (by omega)];simp
   |succ j=>rw[show k+(j+1)=k+1+j by omega,h2 j (by simpa using hj)];simp
  ·rw[h3 i (by omega)];simp[show i≠k by omega]
theorem aJW:(Tryz.prog.info? 9).map (fun i=>(i.zero,i.size,i.bytes))=some (some (.string ByteArray.empty),1,16):=by kernel_rfl
end Go.Proofs.YtokmgbidmnanpaaGreatDoor
namespace Go.Proofs.YtokmgbidmnanpaaGreatDoor
open Go.RowKit
def Arr(w:World)(P:Nat→Prop)(sz len:Nat)(a:Option Addr)(C:Nat→Nat→Value):Prop:=
 0<len→∃b off,a=some ⟨b,off,none⟩∧P b∧∀i,i<len→∀j,j<sz→w.cell? ⟨b,off+i*sz+j,none⟩=some (C i j)
theorem Arr.mono{w w':World}{P:Nat→Prop}{sz len:Nat}{a:Option Addr}{C:Nat→Nat→Value}(h:Arr w P sz len a C)(e:∀k,P k→w'.heap[k]?=w.heap[k]?):Arr w' P sz len a C:=fun hl=>by
 obtain⟨b,off,ha,hb,hc⟩:=h hl
 exact⟨b,off,ha,hb,fun i hi j hj=>(World.cell?_of_block (w:=w) (a:=⟨b,off+i*sz+j,none⟩) (e b hb)).trans (hc i hi j hj)⟩
theorem Arr.sub{w:World}{P Q:Nat→Prop}{sz len:Nat}{a:Option Addr}{C:Nat→Nat→Value}(h:Arr w P sz len a C)(e:∀k,P k→Q k):Arr w Q sz len a C:=fun hl=>by
 obtain⟨b,off,ha,hb,hc⟩:=h hl
 exact⟨b,off,ha,e _ hb,hc⟩
end Go.Proofs.YtokmgbidmnanpaaGreatDoor
namespace Go.Proofs.YtokmgbidmnanpaaGreatDoor
open Go.RowKit
structure F where
 name:ByteArray
 of:ByteArray
 list:Bool
 must:Bool
 far:Bool
 hidden:Bool
 shared:Bool
 needs:List ByteArray
structure T where
 name:ByteArray
 key:ByteArray
 fields:List F
structure Pt where
 name:ByteArray
 types:List T
def F.zero:F:=⟨ByteArray.empty,ByteArray.empty,false,false,false,false,false,[]⟩
def T.zero:T:=⟨ByteArray.empty,ByteArray.empty,[]⟩
def fth(fs:List F)(i:Nat):F:=fs.getD i F.zero
def tth(ts:List T)(i:Nat):T:=ts.getD i T.zero
def FRep(w:World)(P:Nat→Prop)(f:F)(v:Value):Prop:=∃(na:Option Addr) (nc:Nat),
 v=.agg #[.string f.name,.string f.of,.bool f.list,.bool f.must,.bool f.far,.bool f.hidden,.bool f.shared,.slice na f.needs.length nc]∧Strs w P f.needs na∧f.needs.length≤nc∧f.name.size≤maxLen∧f.of.size≤maxLen∧16*f.needs.length≤281474976710656
def aC6(w:World)(P:Nat→Prop)(fs:List F)(a:Option Addr):Prop:=64*fs.length≤281474976710656∧∃C:Nat→Nat→Value,Arr w P 8 fs.length a C∧∀i,i<fs.length→FRep w P (fth fs i) (.agg #[C i 0,C i 1,C i 2,C i 3,C i 4,C i 5,C i 6,C i 7])
def TRep(w:World)(P:Nat→Prop)(t:T)(v:Value):Prop:=∃(fa:Option Addr) (fc:Nat),
 v=.agg #[.string t.name,.string t.key,.slice fa t.fields.length fc]∧aC6 w P t.fields fa∧t.fields.length≤fc∧t.name.size≤maxLen∧t.key.size≤maxLen
def aEO(w:World)(P:Nat→Prop)(ts:List T)(a:Option Addr):Prop:=56*ts.length≤281474976710656∧∃C:Nat→Nat→Value,Arr w P 3 ts.length a C∧∀i,i<ts.length→TRep w P (tth ts i) (.agg #[C i 0,C i 1,C i 2])
def PRep(w:World)(P:Nat→Prop)(p:Pt)(v:Value):Prop:=∃(ta:Option Addr) (tc:Nat),
 v=.agg #[.string p.name,.slice ta p.types.length tc]∧aEO w P p.types ta∧p.types.length≤tc∧p.name.size≤maxLen
theorem FRep.mono{w w':World}{P:Nat→Prop}{f:F}{v:Value}(h:FRep w P f v)(e:∀k,P k→w'.heap[k]?=w.heap[k]?):FRep w' P f v:=by
 obtain⟨na,nc,h1,h2,h3⟩:=h;exact⟨na,nc,h1,h2.mono e,h3⟩
theorem FRep.sub{w:World}{P Q:Nat→Prop}{f:F}{v:Value}(h:FRep w P f v)(e:∀k,P k→Q k):FRep w Q f v:=by
 obtain⟨na,nc,h1,h2,h3⟩:=h;exact⟨na,nc,h1,h2.sub e,h3⟩
theorem aC6.mono{w w':World}{P:Nat→Prop}{f:List F}{v:Option Addr}(h:aC6 w P f v)(e:∀k,P k→w'.heap[k]?=w.heap[k]?):aC6 w' P f v:=by
 obtain⟨h0,C,h1,h2⟩:=h;exact⟨h0,C,h1.mono e,fun i hi=>(h2 i hi).mono e⟩
theorem aC6.sub{w:World}{P Q:Nat→Prop}{f:List F}{v:Option Addr}(h:aC6 w P f v)(e:∀k,P k→Q k):aC6 w Q f v:=by
 obtain⟨h0,C,h1,h2⟩:=h;exact⟨h0,C,h1.sub e,fun i hi=>(h2 i hi).sub e⟩
theorem TRep.mono{w w':World}{P:Nat→Prop}{t:T}{v:Value}(h:TRep w P t v)(e:∀k,P k→w'.heap[k]?=w.heap[k]?):TRep w' P t v:=by
 obtain⟨fa,fc,h1,h2,h3⟩:=h;exact⟨fa,fc,h1,h2.mono e,h3⟩
theorem TRep.sub{w:World}{P Q:Nat→Prop}{t:T}{v:Value}(h:TRep w P t v)(e:∀k,P k→Q k):TRep w Q t v:=by
 obtain⟨fa,fc,h1,h2,h3⟩:=h;exact⟨fa,fc,h1,h2.sub e,h3⟩
theorem aEO.mono{w w':World}{P:Nat→Prop}{f:List T}{v:Option Addr}(h:aEO w P f v)(e:∀k,P k→w'.heap[k]?=w.heap[k]?):aEO w' P f v:=by
 obtain⟨h0,C,h1,h2⟩:=h;exact⟨h0,C,h1.mono e,fun i hi=>(h2 i hi).mono e⟩
theorem aEO.sub{w:World}{P Q:Nat→Prop}{f:List T}{v:Option Addr}(h:aEO w P f v)(e:∀k,P k→Q k):aEO w Q f v:=by
 obtain⟨h0,C,h1,h2⟩:=h;exact⟨h0,C,h1.sub e,fun i hi=>(h2 i hi).sub e⟩
theorem PRep.mono{w w':World}{P:Nat→Prop}{t:Pt}{v:Value}(h:PRep w P t v)(e:∀k,P k→w'.heap[k]?=w.heap[k]?):PRep w' P t v:=by
 obtain⟨fa,fc,h1,h2,h3⟩:=h;exact⟨fa,fc,h1,h2.mono e,h3⟩
theorem PRep.sub{w:World}{P Q:Nat→Prop}{t:Pt}{v:Value}(h:PRep w P t v)(e:∀k,P k→Q k):PRep w Q t v:=by
 obtain⟨fa,fc,h1,h2,h3⟩:=h;exact⟨fa,fc,h1,h2.sub e,h3⟩
theorem FRep.under{w w':World}{B:Nat}{x:F}{v:Value}(h:FRep w (·<B) x v)(hb:Below B w w'):FRep w' (·<B) x v:=h.mono fun k hk=>hb.block k hk
theorem aC6.under{w w':World}{B:Nat}{x:List F}{v:Option Addr}(h:aC6 w (·<B) x v)(hb:Below B w w'):aC6 w' (·<B) x v:=h.mono fun k hk=>hb.block k hk
theorem TRep.under{w w':World}{B:Nat}{x:T}{v:Value}(h:TRep w (·<B) x v)(hb:Below B w w'):TRep w' (·<B) x v:=h.mono fun k hk=>hb.block k hk
theorem aEO.under{w w':World}{B:Nat}{x:List T}{v:Option Addr}(h:aEO w (·<B) x v)(hb:Below B w w'):aEO w' (·<B) x v:=h.mono fun k hk=>hb.block k hk
theorem PRep.under{w w':World}{B:Nat}{x:Pt}{v:Value}(h:PRep w (·<B) x v)(hb:Below B w w'):PRep w' (·<B) x v:=h.mono fun k hk=>hb.block k hk
def szF(f:F):Nat:=f.name.size+f.of.size+szNs f.needs
def aBY(fs:List F)(n:Nat):Nat:=((List.range n).map fun i=>szF (fth fs i)).sum
theorem aD0(fs:List F)(n:Nat):aBY fs (n+1)=aBY fs n+szF (fth fs n):=by simp[aBY,List.range_succ]
def szFs(fs:List F):Nat:=fs.length+aBY fs fs.length
def szT(t:T):Nat:=t.name.size+t.key.size+szFs t.fields
def aBT(ts:List T)(n:Nat):Nat:=((List.range n).map fun i=>szT (tth ts i)).sum
theorem aCK(ts:List T)(n:Nat):aBT ts (n+1)=aBT ts n+szT (tth ts n):=by simp[aBT,List.range_succ]
def szTs(ts:List T):Nat:=ts.length+aBT ts ts.length
def szP(p:Pt):Nat:=p.name.size+szTs p.types
end Go.Proofs.YtokmgbidmnanpaaGreatDoor
namespace Go.Proofs.YtokmgbidmnanpaaGreatDoor
open Go.RowKit
theorem aAN{B N:Nat}{a w:World}(h:Below B a w)(hN:B≤N)(v0 v1 v2 v3 v4 v5 v6 v7:Value):
  Below B a ((((((((w.setCell ⟨N,0,none⟩ v0).setCell ⟨N,1,none⟩ v1).setCell ⟨N,2,none⟩ v2).setCell ⟨N,3,none⟩ v3).setCell ⟨N,4,none⟩ v4).setCell ⟨N,5,none⟩ v5).setCell ⟨N,6,none⟩ v6).setCell ⟨N,7,none⟩ v7):=
 aD2 hN [v0,v1,v2,v3,v4,v5,v6,v7] w 0 h
theorem aHJ{N b:Nat}(h:b≠N)(w:World)(v0 v1 v2 v3 v4 v5 v6 v7:Value):
  ((((((((w.setCell ⟨N,0,none⟩ v0).setCell ⟨N,1,none⟩ v1).setCell ⟨N,2,none⟩ v2).setCell ⟨N,3,none⟩ v3).setCell ⟨N,4,none⟩ v4).setCell ⟨N,5,none⟩ v5).setCell ⟨N,6,none⟩ v6).setCell ⟨N,7,none⟩ v7).heap[b]?=w.heap[b]?:=
 aCX N b h [v0,v1,v2,v3,v4,v5,v6,v7] w 0
theorem aBB{w:World}{N:Nat}{c:Array Value}{T:TypeId}(hb:w.heap[N]?=some (.cells c T (0,0)))(hc:c.size=8)(v0 v1 v2 v3 v4 v5 v6 v7:Value)(W:World)
  (hW:W.heap[N]?=((((((((w.setCell ⟨N,0,none⟩ v0).setCell ⟨N,1,none⟩ v1).setCell ⟨N,2,none⟩ v2).setCell ⟨N,3,none⟩ v3).setCell ⟨N,4,none⟩ v4).setCell ⟨N,5,none⟩ v5).setCell ⟨N,6,none⟩ v6).setCell ⟨N,7,none⟩ v7).heap[N]?):
  W.cell? ⟨N,0,none⟩=some v0∧W.cell? ⟨N,1,none⟩=some v1∧W.cell? ⟨N,2,none⟩=some v2∧W.cell? ⟨N,3,none⟩=some v3∧W.cell? ⟨N,4,none⟩=some v4∧W.cell? ⟨N,5,none⟩=some v5∧W.cell? ⟨N,6,none⟩=some v6∧W.cell? ⟨N,7,none⟩=some v7:=by
 have hrow:w.rowIs N T 8 (fun i=>c[i]?.getD undef):=⟨c,hb,hc,fun i hi=>by simp[show i<c.size by omega]⟩
 obtain⟨G',hG,hG1,-⟩:=aID [v0,v1,v2,v3,v4,v5,v6,v7] 0 hrow
 have hG2:W.rowIs N T 8 G':=hG.of_block hW
 have g:∀j,j<8→W.cell? ⟨N,j,none⟩=some ([v0,v1,v2,v3,v4,v5,v6,v7].getD j undef):=fun j hj=>by
  have:=hG1 j hj
  rw[Nat.zero_add] at this
  rw[hG2.cell hj,this]
 exact⟨g 0 (by omega),g 1 (by omega),g 2 (by omega),g 3 (by omega),g 4 (by omega),g 5 (by omega),g 6 (by omega),g 7 (by omega)⟩
end Go.Proofs.YtokmgbidmnanpaaGreatDoor
namespace Go.Proofs.YtokmgbidmnanpaaGreatDoor
open Go.RowKit
theorem tgH(n:Nat){p:Prop}(h:Hid (n=n)→p):p:=h rfl
section
variable {P:Program} {ops:Array Oper} {Q:Exit→Act→World→Prop} {md:Region.Mode} {S:World→Prop}
theorem tkL(i:Nat){oi:Oper}{v:Value}{fuel:Nat}{listed l':Array Bool}{a a':Act}{w:World}(hS:S w)(h:wpAnyH P md ops Q S fuel l' a' w)
  (hr:((Region.ready md ops listed).contains i&&Region.free md ops listed i)=true:=by decide +kernel)
  (hi:ops.toList[i]?=some oi:=by exact rfl) (hs:Region.noSelect ops=true:=by kernel_rfl)
  (hw:Region.wanted oi (yielded ops a.tmps)=true:=by exact rfl)
  (hy:∀w',S w'→(execOp a.eval oi).run P w'=.ok (.value v) w':=by(intro w' hSw;(try dsimp only at hSw);go_simp;try with_reducible rfl))
  (hQ:∀c a w,Q (.panic c) (a.put oi.dst v) w→Q (.panic c) a w:=by exact fun _ _ _ h=>h)
  (ha:a.put oi.dst v=a':=by((try simp only[Act.put,List.setIfInBounds_toArray,List.set_cons_zero,List.set_cons_succ]);try rfl))
  (hl:listed.setIfInBounds i true=l':=by((try simp only[List.setIfInBounds_toArray,List.set_cons_zero,List.set_cons_succ]);try rfl)):wpAnyH P md ops Q S (fuel+1) listed a w:=by
 rw[Bool.and_eq_true] at hr
 exact tkH i hS h hi hs hr.2 hr.1 hw hy hQ ha hl
theorem rdyL(rs:List Nat){fuel:Nat}{listed:Array Bool}{a:Act}{w:World}(h:AllReadyH P md ops Q S fuel listed a w rs)(hr:Region.ready md ops listed=rs:=by decide +kernel)(hne:rs≠[]:=by simp):wpAnyH P md ops Q S (fuel+1) listed a w:=wpAnyH_ready hr hne h
end
end Go.Proofs.YtokmgbidmnanpaaGreatDoor
namespace Go.Proofs.YtokmgbidmnanpaaGreatDoor
open Go.RowKit
end Go.Proofs.YtokmgbidmnanpaaGreatDoor
namespace Go.Proofs.YtokmgbidmnanpaaGreatDoor
open Go.RowKit
end Go.Proofs.YtokmgbidmnanpaaGreatDoor
namespace Go.Proofs.YtokmgbidmnanpaaGreatDoor
open Go.RowKit
end Go.Proofs.YtokmgbidmnanpaaGreatDoor
namespace Go.Proofs.YtokmgbidmnanpaaGreatDoor
open Go.RowKit
end Go.Proofs.YtokmgbidmnanpaaGreatDoor
namespace Go.Proofs.YtokmgbidmnanpaaGreatDoor
open Go.RowKit
end Go.Proofs.YtokmgbidmnanpaaGreatDoor
namespace Go.Proofs.YtokmgbidmnanpaaGreatDoor
open Go.RowKit
structure Se where
 al:ByteArray
 name:ByteArray
 one:Bool
 id:Int
 kids:List Se
def Se.zero:Se:=.mk ByteArray.empty ByteArray.empty false 0 []
def sth(ks:List Se)(i:Nat):Se:=ks.getD i Se.zero
def SeN(w:World)(P:Nat→Prop):Nat→Se→Value→Prop
 |0,_,_=>False
 |f+1,x,v=>∃(ka:Option Addr) (kc:Nat) (C:Nat→Nat→Value),
   v=.agg #[.string x.al,.string x.name,.bool x.one,.int .i64 x.id,.slice ka x.kids.length kc]∧x.al.size≤maxLen∧x.name.size≤maxLen∧72*x.kids.length≤281474976710656∧
   Arr w P 5 x.kids.length ka C∧∀i,i<x.kids.length→SeN w P f (sth x.kids i) (.agg #[C i 0,C i 1,C i 2,C i 3,C i 4])
def aDZ(w:World)(P:Nat→Prop)(x:Se)(v:Value):Prop:=∃f,SeN w P f x v
def aAA(w:World)(P:Nat→Prop)(ks:List Se)(a:Option Addr):Prop:=
 72*ks.length≤281474976710656∧∃C:Nat→Nat→Value,Arr w P 5 ks.length a C∧∀i,i<ks.length→aDZ w P (sth ks i) (.agg #[C i 0,C i 1,C i 2,C i 3,C i 4])
theorem SeN.le{w:World}{P:Nat→Prop}:∀{f g:Nat} {x:Se} {v:Value},SeN w P f x v→f≤g→SeN w P g x v
 |0,_,_,_,h,_=>h.elim
 |f+1,0,_,_,_,hg=>by omega
 |f+1,g+1,x,v,h,hg=>by
  obtain⟨ka,kc,C,h1,h2,h3,h4,h5,h6⟩:=h
  exact⟨ka,kc,C,h1,h2,h3,h4,h5,fun i hi=>(h6 i hi).le (by omega)⟩
theorem aL9{w:World}{P:Nat→Prop}{X:Nat→Se}{U:Nat→Value}:∀n:Nat,(∀i,i<n→aDZ w P (X i) (U i))→∃f,∀i,i<n→SeN w P f (X i) (U i)
 |0,_=>⟨0,fun i hi=>by omega⟩
 |n+1,h=>by
  obtain⟨f,hf⟩:=aL9 n fun i hi=>h i (by omega)
  obtain⟨g,hg⟩:=h n (by omega)
  refine⟨f+g,fun i hi=>?_⟩
  by_cases e:i=n
  ·subst e;exact hg.le (by omega)
  ·exact(hf i (by omega)).le (by omega)
theorem aDZ.of_kids{w:World}{P:Nat→Prop}{s n:ByteArray}{o:Bool}{id:Int}{ks:List Se}{ka:Option Addr}{kc:Nat}(hs:s.size≤maxLen)(hn:n.size≤maxLen)(hK:aAA w P ks ka):
  aDZ w P (.mk s n o id ks) (.agg #[.string s,.string n,.bool o,.int .i64 id,.slice ka ks.length kc]):=by
 obtain⟨hbk,C,hA,hr⟩:=hK
 obtain⟨f,hf⟩:=aL9 ks.length hr
 exact⟨f+1,ka,kc,C,rfl,hs,hn,hbk,hA,hf⟩
theorem aDZ.inv{w:World}{P:Nat→Prop}{s n:ByteArray}{o:Bool}{id:Int}{ks:List Se}{v:Value}(h:aDZ w P (.mk s n o id ks) v):
  ∃(ka:Option Addr) (kc:Nat),v=.agg #[.string s,.string n,.bool o,.int .i64 id,.slice ka ks.length kc]∧s.size≤maxLen∧n.size≤maxLen∧aAA w P ks ka:=by
 obtain⟨f,h⟩:=h
 match f,h with
 |f+1,h=>
  obtain⟨ka,kc,C,hv,hs,hn,hbk,hA,hr⟩:=h
  exact⟨ka,kc,hv,hs,hn,hbk,C,hA,fun i hi=>⟨f,hr i hi⟩⟩
theorem SeN.mono{w w':World}{P:Nat→Prop}(e:∀k,P k→w'.heap[k]?=w.heap[k]?):∀{f:Nat} {x:Se} {v:Value},SeN w P f x v→SeN w' P f x v
 |0,_,_,h=>h.elim
 |f+1,x,v,h=>by
  obtain⟨ka,kc,C,h1,h2,h3,h4,hA,hr⟩:=h
  exact⟨ka,kc,C,h1,h2,h3,h4,hA.mono e,fun i hi=>(hr i hi).mono e⟩
theorem SeN.sub{w:World}{P Q:Nat→Prop}(e:∀k,P k→Q k):∀{f:Nat} {x:Se} {v:Value},SeN w P f x v→SeN w Q f x v
 |0,_,_,h=>h.elim
 |f+1,x,v,h=>by
  obtain⟨ka,kc,C,h1,h2,h3,h4,hA,hr⟩:=h
  exact⟨ka,kc,C,h1,h2,h3,h4,hA.sub e,fun i hi=>(hr i hi).sub e⟩
theorem aDZ.mono{w w':World}{P:Nat→Prop}{x:Se}{v:Value}(h:aDZ w P x v)(e:∀k,P k→w'.heap[k]?=w.heap[k]?):aDZ w' P x v:=by
 obtain⟨f,h⟩:=h;exact⟨f,h.mono e⟩
theorem aDZ.sub{w:World}{P Q:Nat→Prop}{x:Se}{v:Value}(h:aDZ w P x v)(e:∀k,P k→Q k):aDZ w Q x v:=by
 obtain⟨f,h⟩:=h;exact⟨f,h.sub e⟩
theorem aAA.mono{w w':World}{P:Nat→Prop}{ks:List Se}{a:Option Addr}(h:aAA w P ks a)(e:∀k,P k→w'.heap[k]?=w.heap[k]?):aAA w' P ks a:=by
 obtain⟨h0,C,h1,h2⟩:=h;exact⟨h0,C,h1.mono e,fun i hi=>(h2 i hi).mono e⟩
theorem aAA.sub{w:World}{P Q:Nat→Prop}{ks:List Se}{a:Option Addr}(h:aAA w P ks a)(e:∀k,P k→Q k):aAA w Q ks a:=by
 obtain⟨h0,C,h1,h2⟩:=h;exact⟨h0,C,h1.sub e,fun i hi=>(h2 i hi).sub e⟩
theorem aDZ.under{w w':World}{B:Nat}{x:Se}{v:Value}(h:aDZ w (·<B) x v)(hb:Below B w w'):aDZ w' (·<B) x v:=h.mono fun k hk=>hb.block k hk
theorem aAA.under{w w':World}{B:Nat}{x:List Se}{v:Option Addr}(h:aAA w (·<B) x v)(hb:Below B w w'):aAA w' (·<B) x v:=h.mono fun k hk=>hb.block k hk
def aNV:Nat→Se→Nat
 |0,_=>0
 |f+1,x=>1+((List.range x.kids.length).map fun i=>aNV f (sth x.kids i)).sum
def aBX(f:Nat)(ks:List Se)(n:Nat):Nat:=((List.range n).map fun i=>aNV f (sth ks i)).sum
theorem aBN(f:Nat)(ks:List Se)(n:Nat):aBX f ks (n+1)=aBX f ks n+aNV f (sth ks n):=by simp[aBX,List.range_succ]
theorem aBD(f:Nat)(x:Se):aNV (f+1) x=1+aBX f x.kids x.kids.length:=rfl
def aP8:Value:=.agg #[.string ByteArray.empty,.string ByteArray.empty,.bool false,.int .i64 0,.slice none 0 0]
theorem aL2:(Tryz.prog.info? 56).map (fun i=>(i.zero,i.size,i.bytes))=some (some aP8,5,72):=by kernel_rfl
end Go.Proofs.YtokmgbidmnanpaaGreatDoor
namespace Go.Proofs.YtokmgbidmnanpaaGreatDoor
open Go.Shelf
def aR0:Go.Shelf.Ren:=⟨fun| 171=>150| 243=>163| 246=>168| 283=>169| 284=>170| 285=>171| 286=>172| 129=>174| 317=>173| 318=>175| 319=>176| 320=>177| 337=>178| 338=>179| n=>n,fun| 3=>3| 9=>9| 2=>2| 4=>4| 171=>212| 0=>0| 53=>213| 37=>22| 5=>5| 173=>216| 212=>219| 51=>220| 20=>20| 213=>221| 46=>193| 232=>225| 233=>226| n=>n,fun| 17=>1| 18=>2| 19=>3| n=>n⟩
theorem aV1:Go.Proofs.LaysM.n171 Tryz.prog aR0:={
 mixed:=by kernel_rfl
 f129:=Tryz.func174.trans (congrArg some (by kernel_rfl))
 f171:=Tryz.func150.trans (congrArg some (by kernel_rfl))
 f243:=Tryz.func163.trans (congrArg some (by kernel_rfl))
 f246:=Tryz.func168.trans (congrArg some (by kernel_rfl))
 f283:=Tryz.func169.trans (congrArg some (by kernel_rfl))
 f284:=Tryz.func170.trans (congrArg some (by kernel_rfl))
 f285:=Tryz.func171.trans (congrArg some (by kernel_rfl))
 f286:=Tryz.func172.trans (congrArg some (by kernel_rfl))
 f317:=Tryz.func173.trans (congrArg some (by kernel_rfl))
 f318:=Tryz.func175.trans (congrArg some (by kernel_rfl))
 f319:=Tryz.func176.trans (congrArg some (by kernel_rfl))
 f320:=Tryz.func177.trans (congrArg some (by kernel_rfl))
 f337:=Tryz.func178.trans (congrArg some (by kernel_rfl))
 f338:=Tryz.func179.trans (congrArg some (by kernel_rfl))
 t0:=Tryz.underlying0
 a0:=Tryz.isAgg0
 z0:=Tryz.sizeOf0
 v0:=Tryz.zeroValue0
 t2:=Tryz.underlying2
 a2:=Tryz.isAgg2
 z2:=Tryz.sizeOf2
 v2:=Tryz.zeroValue2
 t3:=Tryz.underlying3
 a3:=Tryz.isAgg3
 z3:=Tryz.sizeOf3
 v3:=Tryz.zeroValue3
 t4:=Tryz.underlying4
 a4:=Tryz.isAgg4
 z4:=Tryz.sizeOf4
 v4:=Tryz.zeroValue4
 t5:=Tryz.underlying5
 a5:=Tryz.isAgg5
 z5:=Tryz.sizeOf5
 v5:=Tryz.zeroValue5
 t9:=Tryz.underlying9
 a9:=Tryz.isAgg9
 z9:=Tryz.sizeOf9
 v9:=Tryz.zeroValue9
 t20:=Tryz.underlying20
 a20:=Tryz.isAgg20
 z20:=Tryz.sizeOf20
 v20:=Tryz.zeroValue20
 t37:=Tryz.underlying22
 a37:=Tryz.isAgg22
 z37:=Tryz.sizeOf22
 v37:=Tryz.zeroValue22
 t46:=Tryz.underlying193
 a46:=Tryz.isAgg193
 z46:=Tryz.sizeOf193
 v46:=Tryz.zeroValue193
 t51:=Tryz.underlying220
 a51:=Tryz.isAgg220
 z51:=Tryz.sizeOf220
 v51:=Tryz.zeroValue220
 t53:=Tryz.underlying213
 a53:=Tryz.isAgg213
 z53:=Tryz.sizeOf213
 v53:=Tryz.zeroValue213
 t171:=Tryz.underlying212
 a171:=Tryz.isAgg212
 z171:=Tryz.sizeOf212
 v171:=Tryz.zeroValue212
 t173:=Tryz.underlying216
 a173:=Tryz.isAgg216
 z173:=Tryz.sizeOf216
 v173:=Tryz.zeroValue216
 t212:=Tryz.underlying219
 a212:=Tryz.isAgg219
 z212:=Tryz.sizeOf219
 v212:=Tryz.zeroValue219
 t213:=Tryz.underlying221
 a213:=Tryz.isAgg221
 z213:=Tryz.sizeOf221
 t232:=Tryz.underlying225
 a232:=Tryz.isAgg225
 z232:=Tryz.sizeOf225
 v232:=Tryz.zeroValue225
 t233:=Tryz.underlying226
 a233:=Tryz.isAgg226
 z233:=Tryz.sizeOf226
 v233:=Tryz.zeroValue226
 g17:=by kernel_rfl
 g18:=by kernel_rfl
 g19:=by kernel_rfl
 i0:=by kernel_rfl
 i2:=by kernel_rfl
 i3:=by kernel_rfl
 i4:=by kernel_rfl
 i5:=by kernel_rfl
 i9:=by kernel_rfl
 i20:=by kernel_rfl
 i37:=by kernel_rfl
 i46:=by kernel_rfl
 i51:=by kernel_rfl
 i53:=by kernel_rfl
 i171:=by kernel_rfl
 i173:=by kernel_rfl
 i212:=by kernel_rfl
 i232:=by kernel_rfl
 i233:=by kernel_rfl
 m17:=by kernel_rfl
 m18:=by kernel_rfl
 m19:=by kernel_rfl }
end Go.Proofs.YtokmgbidmnanpaaGreatDoor
namespace Go.Proofs.YtokmgbidmnanpaaGreatDoor
open Go.RowKit Go.Maps Go.ChangeMaps Go.MapKept
structure aRR(P:Program)(k:TypeId)(I:Value→Prop)(w:World):Prop where
 fields:∃fs,P.underlying k=some (.struct fs)
 check:∀(em:Bool) (v:Value),I v→(Instr.checkKey em 10000 k v).run P w=.ok () w
 same:∀v:Value,I v→(Op.equal k v v).run P w=.ok true w
 differ:∀u v:Value,I u→I v→u≠v→(Op.equal k u v).run P w=.ok false w
 stays:∀v:Value,I v→Instr.sameBits 10000 v v=true
theorem aH0{P:Program}{k:TypeId}{I:Value→Prop}{w:World}(K:aRR P k I w)(x:Value)(hx:I x):∀(es:List MapEntry) (i:Nat),(∀e∈ es,I e.key)→
  ((Instr.findAsking k x es i).run P w=.ok none w∧∀e∈ es,e.key≠x)∨∃j e,(Instr.findAsking k x es i).run P w=.ok (some (i+j,e.val)) w∧es[j]?=some e∧e.key=x
 |[],i,_=>Or.inl ⟨by simp[Instr.findAsking],by simp⟩
 |e::es,i,h=>by
  have he:=h e (by simp)
  by_cases hk:e.key=x
  ·refine Or.inr ⟨0,e,?_,rfl,hk⟩
   have h1:=K.same x hx
   simp[Instr.findAsking,hk,h1,Result.andThen]
  ·have h1:=K.differ x e.key hx he (fun h=>hk h.symm)
   rcases aH0 K x hx es (i+1) (fun e' he'=>h e' (by simp[he'])) with⟨h2,h3⟩| ⟨j,e',h2,h3,h4⟩
   ·refine Or.inl ⟨?_,fun e' he'=>?_⟩
    ·simp[Instr.findAsking,h1,h2,Result.andThen]
    ·rcases List.mem_cons.1 he' with rfl| h5
     ·exact hk
     ·exact h3 e' h5
   ·refine Or.inr ⟨j+1,e',?_,by simpa using h3,h4⟩
    simp[Instr.findAsking,h1,h2,Result.andThen]
    omega
theorem aKC{P:Program}{k:TypeId}{I:Value→Prop}{w:World}(K:aRR P k I w)(x:Value)(hx:I x)(es:List MapEntry)(h:∀e∈ es,I e.key):
  ((Instr.findKey k x es).run P w=.ok none w∧∀e∈ es,e.key≠x)∨∃j e,(Instr.findKey k x es).run P w=.ok (some (j,e.val)) w∧es[j]?=some e∧e.key=x:=by
 obtain⟨fs,hfs⟩:=K.fields
 match es,h with
 |[],_=>exact Or.inl ⟨by simp[Instr.findKey,run_underlying hfs,Instr.findNow,Result.andThen],by simp⟩
 |e::es,h=>
  have hn:Instr.findNow (.struct fs) x (e::es) 0=none:=by simp[Instr.findNow,Instr.sameNow]
  rcases aH0 K x hx (e::es) 0 h with⟨h2,h3⟩| ⟨j,e',h2,h3,h4⟩
  ·exact Or.inl ⟨by simp[Instr.findKey,run_underlying hfs,hn,h2,Result.andThen],h3⟩
  ·exact Or.inr ⟨j,e',by simp[Instr.findKey,run_underlying hfs,hn,h2,Result.andThen],h3,h4⟩
def aF1(w:World)(I:Value→Prop)(b:Nat)(G:Value→Option Value):Prop:=
 ∃es clock,w.heap[b]?=some (.map es clock)∧(∀e∈ es.toList,I e.key∧G e.key=some e.val)∧(∀k v,G k=some v→∃e∈ es.toList,e.key=k)∧es.toList.Pairwise (fun a b=>a.key≠b.key)
theorem aF1.lt{w:World}{I:Value→Prop}{b:Nat}{G:Value→Option Value}(h:aF1 w I b G):b<w.heap.size:=by
 obtain⟨es,clock,hb,_⟩:=h
 exact(Array.getElem?_eq_some_iff.1 hb).1
theorem aF1.of_block{w w':World}{I:Value→Prop}{b:Nat}{G:Value→Option Value}(h:aF1 w I b G)(e:w'.heap[b]?=w.heap[b]?):aF1 w' I b G:=by
 obtain⟨es,clock,hb,r⟩:=h
 exact⟨es,clock,e.trans hb,r⟩
theorem aF1.made(w:World)(I:Value→Prop):aF1 (w.alloc (.map #[] 0)) I w.heap.size (fun _=>none):=
 ⟨#[],0,(MapKept.heap_alloc w _).1,by simp,by simp,by simp⟩
theorem aF1.key{w:World}{I:Value→Prop}{b:Nat}{G:Value→Option Value}(h:aF1 w I b G){k v:Value}(hk:G k=some v):I k:=by
 obtain⟨es,clock,hb,h1,h2,_⟩:=h
 obtain⟨e,he,rfl⟩:=h2 k v hk
 exact(h1 e he).1
theorem aF1.look{P:Program}{k:TypeId}{I:Value→Prop}{w:World}{b:Nat}{G:Value→Option Value}{t e:TypeId}(c:Bool)(h:aF1 w I b G)(K:aRR P k I w)(ht:P.underlying t=some (.map k e)){z:Value}(hz:(zeroValue e).run P w=.ok z w){x:Value}(hx:I x):
  (Instr.lookup t (.map (some b)) x c).run P w=.ok (if c then .tuple #[(G x).getD z,.bool (G x).isSome] else(G x).getD z) w:=by
 obtain⟨es,clock,hb,h1,h2,h3⟩:=h
 rcases aKC K x hx es.toList (fun e he=>(h1 e he).1) with⟨r1,r2⟩| ⟨j,e0,r1,r2,r3⟩
 ·have hG:G x=none:=by
   cases hg:G x with
   |none=>rfl
   |some v=>obtain⟨e1,he1,hk1⟩:=h2 x v hg;exact absurd hk1 (r2 e1 he1)
  simp[Instr.lookup,run_underlying ht,MapKept.run_getObj_map hb,K.check _ x hx,r1,hz,hG,Result.andThen]
 ·have hG:G x=some e0.val:=by rw[←r3];exact(h1 e0 (List.mem_of_getElem? r2)).2
  simp[Instr.lookup,run_underlying ht,MapKept.run_getObj_map hb,K.check _ x hx,r1,hG,Result.andThen]
theorem aF1.store{P:Program}{k:TypeId}{I:Value→Prop}{w:World}{b:Nat}{G:Value→Option Value}{t e:TypeId}(h:aF1 w I b G)(K:aRR P k I w)(ht:P.underlying t=some (.map k e)){x:Value}(hx:I x)(v:Value):
  ∃w' G',(Instr.mapUpdate t (.map (some b)) x v).run P w=.ok () w'∧aF1 w' I b G'∧G' x=some v∧(∀y,y≠x→G' y=G y)∧w.grownBy w' (some b):=by
 classical
 obtain⟨es,clock,hb,h1,h2,h3⟩:=h
 have hgrow:∀o,w.grownBy (setBlock w b o) (some b):=fun o=>⟨rfl,rfl,rfl,by simp[setBlock],fun i _ hi=>heap_setBlock_other hb _ (fun e=>hi (by rw[e]))⟩
 rcases aKC K x hx es.toList (fun e he=>(h1 e he).1) with⟨r1,r2⟩| ⟨j,e0,r1,r2,r3⟩
 ·refine⟨setBlock w b (.map (es.push ⟨x,v,clock⟩) (clock+1)),fun y=>if y=x then some v else G y,?_,⟨es.push ⟨x,v,clock⟩,clock+1,heap_setBlock_same hb _,?_,?_,?_⟩,by simp,fun y hy=>by simp[hy],hgrow _⟩
  ·simp[Instr.mapUpdate,run_underlying ht,MapKept.run_getObj_map hb,K.check false x hx,r1,MapKept.run_setObj_map _ hb,Result.andThen,setBlock]
  ·intro e' he'
   simp only[Array.toList_push,List.mem_append,List.mem_singleton] at he'
   rcases he' with he'| rfl
   ·exact⟨(h1 e' he').1,by simp only;rw[if_neg (r2 e' he')];exact(h1 e' he').2⟩
   ·exact⟨hx,by simp⟩
  ·intro y u hy
   simp only at hy
   by_cases hyx:y=x
   ·exact⟨⟨x,v,clock⟩,by simp,hyx.symm⟩
   ·rw[if_neg hyx] at hy
    obtain⟨e',he',hk'⟩:=h2 y u hy
    exact⟨e',by simp only[Array.toList_push,List.mem_append];exact Or.inl he',hk'⟩
  ·rw[Array.toList_push,List.pairwise_append]
   exact⟨h3,by simp,fun a ha c hc=>by simp at hc;subst hc;exact r2 a ha⟩
 ·have hj:es[j]?=some e0:=by simpa using r2
  have hlist:(es.modify j (fun e'=>{ e' with key:=x,val:=v })).toList=es.toList.set j { e0 with key:=x,val:=v }:=by rw[Array.toList_modify,modify_eq_set _ _ _ _ r2]
  have hjl:j<es.toList.length:=(List.getElem?_eq_some_iff.1 r2).1
  have hej:es.toList[j]=e0:=(List.getElem?_eq_some_iff.1 r2).2
  have hoth:∀(i:Nat) (hi:i<es.toList.length),i≠j→es.toList[i].key≠x:=fun i hi hij=>by
   rcases Nat.lt_or_gt_of_ne hij with hlt| hlt
   ·have:=List.pairwise_iff_getElem.1 h3 i j hi hjl hlt
    rw[hej,r3] at this;exact this
   ·have:=List.pairwise_iff_getElem.1 h3 j i hjl hi hlt
    rw[hej,r3] at this;exact fun e=>this e.symm
  refine⟨setBlock w b (.map (es.modify j (fun e'=>{ e' with key:=x,val:=v })) clock),fun y=>if y=x then some v else G y,?_,⟨_,clock,heap_setBlock_same hb _,?_,?_,?_⟩,by simp,fun y hy=>by simp[hy],hgrow _⟩
  ·have hs:=K.stays x hx
   simp[Instr.mapUpdate,run_underlying ht,MapKept.run_getObj_map hb,K.check false x hx,r1,hj,r3,Instr.keyThatStays,hs,MapKept.run_setObj_map _ hb,Result.andThen,setBlock]
  ·intro e' he'
   rw[hlist] at he'
   obtain⟨i,hi,rfl⟩:=List.getElem_of_mem he'
   rw[List.getElem_set]
   split
   ·exact⟨hx,by simp⟩
   ·rename_i hne
    have hi':i<es.toList.length:=by simpa using hi
    exact⟨(h1 _ (List.getElem_mem hi')).1,by simp only;rw[if_neg (hoth i hi' (fun e=>hne e.symm))];exact(h1 _ (List.getElem_mem hi')).2⟩
  ·intro y u hy
   rw[hlist]
   simp only at hy
   by_cases hyx:y=x
   ·exact⟨{ e0 with key:=x,val:=v },List.mem_of_getElem? (i:=j) (by rw[List.getElem?_set_self hjl]),hyx.symm⟩
   ·rw[if_neg hyx] at hy
    obtain⟨e',he',hk'⟩:=h2 y u hy
    obtain⟨i,hi,rfl⟩:=List.getElem_of_mem he'
    have hij:j≠i:=fun e=>by subst e;rw[hej,r3] at hk';exact hyx hk'.symm
    exact⟨es.toList[i],List.mem_of_getElem? (i:=i) (by rw[List.getElem?_set_ne hij];simp),hk'⟩
  ·rw[hlist,List.pairwise_iff_getElem]
   intro i i' hi hi' hlt
   simp only[List.length_set] at hi hi'
   rw[List.getElem_set,List.getElem_set]
   split
   ·rename_i e1
    subst e1
    rw[if_neg (by omega)]
    exact fun e=>hoth i' hi' (by omega) e.symm
   ·split
    ·rename_i e1 e2
     subst e2
     exact hoth i hi (fun e=>e1 e.symm)
    ·exact List.pairwise_iff_getElem.1 h3 i i' hi hi' hlt
def aBK(w:World)(b:Nat):Prop:=(∃c t f,w.heap[b]?=some (.cells c t f))∧∀a:Addr,a.block=b→w.frozen? a=false
theorem aBK.of_block{w w':World}{b:Nat}(h:aBK w b)(e:w'.heap[b]?=w.heap[b]?):aBK w' b:=by
 obtain⟨⟨c,t,f,h1⟩,h2⟩:=h
 refine⟨⟨c,t,f,e.trans h1⟩,fun a ha=>?_⟩
 have:=h2 a ha
 subst ha
 simpa[World.frozen?,e] using this
theorem aK0{P:Program}{w:World}{a b:Addr}(hne:a≠b)(ha:aBK w a.block)(hb:aBK w b.block):(sameAddr a b).run P w=.ok false w:=by
 obtain⟨⟨c,t,f,h1⟩,h2⟩:=ha
 obtain⟨⟨c',t',f',h1'⟩,h2'⟩:=hb
 by_cases hbl:a.block=b.block
 ·simp[sameAddr,hbl,hne]
 ·have f1:=h2 a rfl
  have f2:=h2' b rfl
  have g1:=h2 ⟨a.block,c.size,none⟩ rfl
  have g2:=h2' ⟨b.block,c'.size,none⟩ rfl
  simp[sameAddr,hbl,f1,f2,g1,g2,noView,viewAt,World.shape?,h1,h1',mayBeOne,stringish]
end Go.Proofs.YtokmgbidmnanpaaGreatDoor
namespace Go.Proofs.YtokmgbidmnanpaaGreatDoor
open Go.RowKit Go.Deep Go.ChangeShapes
theorem aMQ(b off k:Nat):(⟨b,off,none⟩:Addr).add k=⟨b,off+k,none⟩:=by by_cases h:k=0<;>simp[Addr.add,h]
section
variable {H:Type} {enc:TypeId× Value→H} {w:World}
def aSD(t:TypeId)(d:DataW H):Prop:=∀n∈ d.weights Tryz.prog t,n≤reachBytes
theorem aM8{e:TypeId}:∀{l:List (DataW H)} {d:DataW H},d∈ l→∀n∈ d.weights Tryz.prog e,n∈ DataW.weightsAll Tryz.prog e l
 |x::r,d,hd,n,hn=>by
  rw[DataW.weightsAll,List.mem_append]
  rcases List.mem_cons.1 hd with rfl| h
  ·exact Or.inl hn
  ·exact Or.inr (aM8 h n hn)
theorem aQR{X:Type}(z:X)(R:X→List Value→Prop)(sl e:TypeId)(sz by':Nat)(hu:Tryz.prog.underlying sl=some (.slice e))(hc:Tryz.prog.cellsOf e=sz)(hby:Tryz.prog.bytesOf e=by')(hs0:0<sz)
  {fuel:Nat} {c:Value} {x:DataW H× List MemPlace} (h:DataW.trod enc Tryz.prog w 0 (fun _=>true) true fuel sl [c]=some x) (hl:aSD sl x.1)
  (ih:∀m cs y,DataW.trod enc Tryz.prog w 0 (fun _=>true) true m e cs=some y→aSD e y.1→cs.length=sz∧∃a,R a cs):
  ∃(xs:List X) (a:Option Addr) (cap:Nat) (C:Nat→Nat→Value),c=.slice a xs.length cap∧xs.length≤cap∧by'*xs.length≤281474976710656∧Arr w (·<w.heap.size) sz xs.length a C∧∀i,i<xs.length→R (xs.getD i z) ((List.range sz).map (C i)):=by
 rcases DataW.trod_slice hu h with⟨hc0,-⟩| ⟨a,len,cap,elems,rest,n',hfu,hc0,rfl,-,hlc,hcm,hle,hel,-,-⟩
 ·simp only[List.cons.injEq,and_true] at hc0
  exact⟨[],none,0,fun _ _=>undef,hc0,by simp,by simp,fun h=>by simp at h,fun i hi=>by simp at hi⟩
 ·simp only[List.cons.injEq,and_true] at hc0
  have hw:by'*len≤281474976710656:=by
   have h1:=hl (((elems.map (·.1)).length+(rest.map (·.1)).length)*Tryz.prog.bytesOf e) (by simp only[DataW.weights,hu];exact List.mem_cons_self ..)
   rw[hby] at h1
   simp only[List.length_map,reachBytes] at h1
   have h2:len*by'≤(elems.length+rest.length)*by':=Nat.mul_le_mul_right _ (by omega)
   have h3:by'*len=len*by':=Nat.mul_comm _ _
   omega
  have hk:∀i,∃r:X× (Nat→Value),i<len→(∀j,j<sz→w.cell? ((a.add (i*sz)).add j)=some (r.2 j))∧R r.1 ((List.range sz).map r.2):=by
   intro i
   by_cases hi:i<len
   ·have hi':i<elems.length:=by omega
    have h1:=hel i hi
    rw[List.getElem?_eq_getElem hi',hc] at h1
    obtain⟨cs',hcs,htr⟩:=Option.bind_eq_some_iff.1 h1
    obtain⟨hlen,y,hR⟩:=ih n' cs' _ htr (fun k hk=>hl k (by
     simp only[DataW.weights,hu]
     refine List.mem_cons_of_mem _ (List.mem_append_left _ (aM8 (d:=elems[i].1) ?_ k hk))
     exact List.mem_map.2 ⟨elems[i],List.getElem_mem hi',rfl⟩))
    obtain⟨-,-,hcc⟩:=World.cells?_some hcs
    have hcs2:(List.range sz).map (fun j=>cs'.getD j undef)=cs':=by
     apply List.ext_getElem
     ·simp[hlen]
     ·intro j h1 h2;simp[List.getD_eq_getElem?_getD,List.getElem?_eq_getElem h2]
    refine⟨(y,fun j=>cs'.getD j undef),fun _=>⟨fun j hj=>?_,?_⟩⟩
    ·rw[hcc j hj]
     simp[List.getD_eq_getElem?_getD,List.getElem?_eq_getElem (show j<cs'.length by omega)]
    ·show R y ((List.range sz).map (fun j=>cs'.getD j undef))
     rw[hcs2];exact hR
   ·exact⟨(z,fun _=>undef),fun h=>absurd h hi⟩
  obtain⟨f,hfk⟩:=Classical.skolem.1 hk
  have hkl:((List.range len).map fun i=>(f i).1).length=len:=by simp
  refine⟨(List.range len).map fun i=>(f i).1,some a,cap,fun i=>(f i).2,by rw[hkl];exact hc0,by rw[hkl];exact hlc,by rw[hkl];exact hw,?_,?_⟩
  ·intro h0
   rw[hkl] at h0 ⊢
   have h1:=(hfk 0 h0).1 0 hs0
   have h2:w.cell? a=some ((f 0).2 0):=by simpa[Addr.add] using h1
   have hsp:=World.cell?_spot h2
   obtain⟨b,off,spot⟩:=a
   simp only at hsp
   subst hsp
   have:w.cells? 0 ⟨b,off,none⟩ 1=some [(f 0).2 0]:=cells?_one (Nat.zero_le _) h2
   refine⟨b,off,rfl,World.cells?_block this (by omega),fun i hi j hj=>?_⟩
   have h3:=(hfk i hi).1 j hj
   rw[aMQ,aMQ] at h3
   exact h3
  ·intro i hi
   rw[hkl] at hi
   have h1:=(hfk i hi).2
   simpa[List.getD_eq_getElem?_getD,List.getElem?_map,List.getElem?_range hi] using h1
end
end Go.Proofs.YtokmgbidmnanpaaGreatDoor
