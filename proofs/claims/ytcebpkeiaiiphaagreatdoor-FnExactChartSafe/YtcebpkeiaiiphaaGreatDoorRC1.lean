import Derived.Deep.RegionHeld3
import Derived.Deep.DeepCutAuto
import Derived.Test.YtcebpkeiaiiphaaGreatDoorRows
import Derived.WalkSpells
import Derived.WalkLawsBesides
import Derived.Deep.OwnRows
import Derived.BigQuiet
set_option linter.unusedSimpArgs false
set_option linter.unusedVariables false
namespace Go.Proofs.YtcebpkeiaiiphaaGreatDoor
open Go.RowKit
section
theorem sIA{α}{l:List α}{i:Nat}{a:α}:l.toArray.setIfInBounds i a=(l.set i a).toArray:=by simp
theorem sI0{α}{x:α}{l:List α}{a:α}:(x::l).set 0 a=a::l:=rfl
theorem sIS{α}{x:α}{l:List α}{n:Nat}{a:α}:(x::l).set (n+1) a=x::l.set n a:=rfl
variable {P:Program} {ops:Array Oper} {Q:Exit->Act->World->Prop} {md:Region.Mode} {S:World->Prop}
theorem tkH(i:Nat){oi:Oper}{v:Value}{fuel:Nat}{listed l':Array Bool}{a a':Act}{w:World}(hS:S w)(h:wpAnyH P md ops Q S fuel l' a' w)
  (hi:ops.toList[i]?=some oi:=by exact rfl) (hs:Region.noSelect ops=true:=by kernel_rfl) (hf:Region.free md ops listed i=true:=by kernel_rfl) (hr:(Region.ready md ops listed).contains i=true:=by kernel_rfl)
  (hw:Region.wanted oi (yielded ops a.tmps)=true:=by exact rfl)
  (hy:∀w',S w'->(execOp a.eval oi).run P w'=.ok (.value v) w':=by(intro w' hSw;(try dsimp only at hSw);go_simp;try with_reducible rfl))
  (hQ:∀c a w,Q (.panic c) (a.put oi.dst v) w->Q (.panic c) a w:=by exact fun _ _ _ h=>h)
  (ha:a.put oi.dst v=a':=by((try simp only[Act.put,sIA,sI0,sIS]);try rfl))
  (hl:listed.setIfInBounds i true=l':=by((try simp only[sIA,sI0,sIS]);try rfl)):wpAnyH P md ops Q S (fuel+1) listed a w:=by
 subst ha hl;exact wpAnyH_take (by rw[<-Array.getElem?_toList];exact hi) hs hf hr hQ (Or.inl ⟨hw,hy⟩) hS h
theorem tnH(i:Nat){oi:Oper}{fuel:Nat}{listed l':Array Bool}{a a':Act}{w:World}(hS:S w)(h:wpAnyH P md ops Q S fuel l' a' w)
  (hi:ops.toList[i]?=some oi:=by exact rfl) (hs:Region.noSelect ops=true:=by kernel_rfl) (hf:Region.free md ops listed i=true:=by kernel_rfl) (hr:(Region.ready md ops listed).contains i=true:=by kernel_rfl)
  (hw:Region.wanted oi (yielded ops a.tmps)=false:=by exact rfl)
  (hQ:∀c a w,Q (.panic c) (a.put oi.dst undef) w->Q (.panic c) a w:=by exact fun _ _ _ h=>h)
  (ha:a.put oi.dst undef=a':=by((try simp only[Act.put,sIA,sI0,sIS]);try rfl))
  (hl:listed.setIfInBounds i true=l':=by((try simp only[sIA,sI0,sIS]);try rfl)):wpAnyH P md ops Q S (fuel+1) listed a w:=by
 subst ha hl;exact wpAnyH_take (by rw[<-Array.getElem?_toList];exact hi) hs hf hr hQ (Or.inr ⟨hw,rfl⟩) hS h
theorem rdyH(rs:List Nat){fuel:Nat}{listed:Array Bool}{a:Act}{w:World}(h:AllReadyH P md ops Q S fuel listed a w rs)(hr:Region.ready md ops listed=rs:=by kernel_rfl)(hne:rs≠[]:=by simp):wpAnyH P md ops Q S (fuel+1) listed a w:=wpAnyH_ready hr hne h
theorem rcH{fuel:Nat}{listed:Array Bool}{a:Act}{w:World}{i:Nat}{o:Oper}{rs:List Nat}
  (h:∀K':Act->World->Prop,Shut (∀a w,S w->(S w->wpAnyH P md ops Q S fuel (listed.setIfInBounds i true) a w)->K' a w)->if Region.wanted o (yielded ops a.tmps)=true then Oper.wp P o a w K' Q else K' (a.put o.dst undef) w)
  (hs:AllReadyH P md ops Q S fuel listed a w rs) (ho:ops.toList[i]?=some o:=by exact rfl):AllReadyH P md ops Q S fuel listed a w (i::rs):=AllReadyH.cons (by rw[<-Array.getElem?_toList];exact ho) h hs
end
theorem aA4{a b:Bool}(h:a=b):Ending.returned (.bool a)=.returned (.bool b):=by rw[h]
theorem aBZ{k:IntKind}{a b:Int}(h:a=b):Ending.returned (.int k a)=.returned (.int k b):=by rw[h]
def digB(c:Int):Bool:=decide (48<=c)&&decide (c<=57)
def wbB(c:Int):Bool:=decide (97<=c)&&decide (c<=122)||(c==95)||digB c
set_option maxHeartbeats 400000 in
theorem aGL(c:Int)(w:World):
  Calls Tryz.prog 157 #[.int .u8 c] w fun e w'=>e=.returned (.bool (digB c))∧w=w':=by
 by_cases h1:48<=c<;>by_cases h2:c<=57<;>
 ·go_enter Tryz.func157,Tryz.ntmps157
  go_wp2
  go_ret
  exact⟨by simp[digB,h1,h2],rfl⟩
set_option maxHeartbeats 400000 in
theorem aG5(c:Int)(w:World):
  Calls Tryz.prog 158 #[.int .u8 c] w fun e w'=>e=.returned (.bool (wbB c))∧w=w':=by
 by_cases h1:97<=c<;>by_cases h2:c<=122<;>by_cases h3:c=95<;>
 ·go_enter Tryz.func158,Tryz.ntmps158
  go_wp2_with (go_at_call 157;refine(aGL _ _).mono ?_;rintro e w' ⟨rfl,rfl⟩)
  go_ret
  exact⟨aA4 (by grind [wbB]),rfl⟩
set_option maxHeartbeats 400000 in
theorem aOS(n lo hi:Int)(w:World):
  Calls Tryz.prog 141 #[.int .i64 n,.int .i64 lo,.int .i64 hi] w fun e w'=>e=.returned (.bool (decide (lo<=n)&&decide (n<=hi)))∧w=w':=by
 by_cases h1:lo<=n<;>by_cases h2:n<=hi<;>
 ·go_enter Tryz.func141,Tryz.ntmps141
  go_wp2
  go_ret
  exact⟨by simp[h1,h2],rfl⟩
def aAL(s:ByteArray)(i:Nat):Int:=((s.data.toList.getD i 0).toNat:Int)
theorem aRL(s:ByteArray)(i:Nat):0<=aAL s i∧aAL s i<=255:=by
 unfold aAL;have:=(s.data.toList.getD i 0).toNat_lt;omega
theorem aEK(s:ByteArray)(i:Nat)(h:i<s.size):((s[i].toNat:Nat):Int)=aAL s i:=by
 unfold aAL;have h':i<s.data.toList.length:=by simpa using h
 rw[List.getD_eq_getElem?_getD,List.getElem?_eq_getElem h'];rfl
def aFB(s:ByteArray)(n:Nat):Bool:=(List.range n).all fun i=>wbB (aAL s i)
theorem aGJ(s:ByteArray)(n:Nat):aFB s (n+1)=(aFB s n&&wbB (aAL s n)):=by
 simp[aFB,List.range_succ]
theorem aN0(s:ByteArray)(n k:Nat)(hk:k<n)(h:wbB (aAL s k)=false):aFB s n=false:=by
 rw[aFB,List.all_eq_false];exact⟨k,by simpa using hk,by simpa using h⟩
def aF1(s:ByteArray):Bool:=decide (1<=s.size)&&decide (s.size<=9)&&!digB (aAL s 0)&&aFB s s.size
set_option maxHeartbeats 400000 in
theorem aQG(s:ByteArray)(w:World)(hs:s.size<=maxLen):
  Calls Tryz.prog 129 #[.string s] w fun e w'=>e=.returned (.bool (aF1 s))∧w=w':=by
 unfold maxLen at hs;by_cases h0:s.size=0
 ·have he:s.toList.isEmpty=true:=by
   have:s.toList.length=s.size:=by rw[ByteArray.toList_eq];simp
   rw[List.isEmpty_iff_length_eq_zero];omega
  go_enter Tryz.func129,Tryz.ntmps129
  go_wp2_with fail
  go_ret
  exact⟨aA4 (by rw[aF1];simp[h0]),rfl⟩
 have he:s.toList.isEmpty=false:=by
  have:s.toList.length=s.size:=by rw[ByteArray.toList_eq];simp
  rw[Bool.eq_false_iff,Ne,List.isEmpty_iff_length_eq_zero];omega
 by_cases hl:s.size<=9
 ·have hp:0<s.size:=by omega
  have hb0:=aEK s 0 hp;by_cases hd:digB (aAL s 0)=true
  ·go_enter Tryz.func129,Tryz.ntmps129
   go_wp2_with (go_at_call 157;refine(aGL _ _).mono ?_;rintro e w' ⟨rfl,rfl⟩)
   go_ret
   exact⟨aA4 (by rw[aF1];simp[hd]),rfl⟩
  ·have hd':digB (aAL s 0)=false:=by simpa using hd
   clear hd;go_enter Tryz.func129,Tryz.ntmps129
   go_wp2_with (go_at_call 157;refine(aGL _ _).mono ?_;rintro e w' ⟨rfl,rfl⟩)
   go_loop [3] (fun i=>∃k:Nat,k<=s.size∧i=.int .i64 k∧aFB s k=true) (fun i=>s.size- (intOf i).toNat)
   case atStart=>exact⟨0,Nat.zero_le _,rfl,rfl⟩
   case round=>
    obtain⟨k,hk,rfl,hp⟩:=hrel;have HP:Hid (aFB s k=true):=hp;clear hp;by_cases hlt:k<s.size
    ·have hb:=aEK s k hlt;cases hw:wbB (aAL s k)
     ·go_wp2_with (go_at_call 158;refine(aG5 _ _).mono ?_;rintro e w' ⟨rfl,rfl⟩)
      go_ret
      exact⟨aA4 (by rw[aF1,aN0 s _ k hlt hw];simp),rfl⟩
     ·go_wp2_with (go_at_call 158;refine(aG5 _ _).mono ?_;rintro e w' ⟨rfl,rfl⟩)
      go_round
      case rel=>exact⟨k+1,by omega,by go_num,by rw[aGJ,HP.out,hw];rfl⟩
      case measure=>simp[intOf];omega
    ·go_wp2_with fail
     go_ret
     have e:k=s.size:=by omega
     exact⟨aA4 (by rw[aF1,hd',<-e,HP.out];simp;omega),rfl⟩
 ·go_enter Tryz.func129,Tryz.ntmps129
  go_wp2_with fail
  go_ret
  exact⟨aA4 (by rw[aF1];simp;omega),rfl⟩
def nbB(i:Nat)(c:Int):Bool:=decide (97<=c)&&decide (c<=122)||(c==95)||(decide (0<i)&&digB c)
def aG9(s:ByteArray)(n:Nat):Bool:=(List.range n).all fun i=>nbB i (aAL s i)
theorem aDQ(s:ByteArray)(n:Nat):aG9 s (n+1)=(aG9 s n&&nbB n (aAL s n)):=by
 simp[aG9,List.range_succ]
theorem aMN(s:ByteArray)(n k:Nat)(hk:k<n)(h:nbB k (aAL s k)=false):aG9 s n=false:=by
 rw[aG9,List.all_eq_false];exact⟨k,by simpa using hk,by simpa using h⟩
theorem aND(s:ByteArray)(n:Nat):aG9 s (n+1)=(!digB (aAL s 0)&&aFB s (n+1)):=by
 induction n with
 |zero=>
  rw[aDQ,aGJ];simp only[aG9,aFB,List.range_zero,List.all_nil,Bool.true_and,nbB,wbB];generalize aAL s 0=c;rw[Bool.eq_iff_iff];simp[digB];omega
 |succ n ih=>
  rw[aDQ,ih,aGJ s (n+1),Bool.and_assoc];simp[nbB,wbB]
theorem aNB(s:ByteArray)(h:1<=s.size):aG9 s s.size=(!digB (aAL s 0)&&aFB s s.size):=by
 obtain⟨n,hn⟩:∃n,s.size=n+1:=⟨s.size- 1,by omega⟩
 rw[hn];exact aND s n
set_option maxHeartbeats 400000 in
theorem aBX(s:ByteArray)(w:World)(hs:s.size<=maxLen):
  Calls Tryz.prog 101 #[.string s] w fun e w'=>e=.returned (.bool (aF1 s))∧w=w':=by
 unfold maxLen at hs;by_cases hin:1<=s.size∧s.size<=9
 ·have hin':(decide ((1:Int)<=s.size)&&decide ((s.size:Int)<=9))=true:=by simp;omega
  go_enter Tryz.func101,Tryz.ntmps101
  go_wp2_with (go_at_call 141;refine(aOS _ _ _ _).mono ?_;rw[hin'];rintro e w' ⟨rfl,rfl⟩)
  go_loop [3] (fun i=>∃k:Nat,k<=s.size∧i=.int .i64 k∧aG9 s k=true) (fun i=>s.size- (intOf i).toNat)
  case atStart=>exact⟨0,Nat.zero_le _,rfl,rfl⟩
  case round=>
   obtain⟨k,hk,rfl,hp⟩:=hrel;have HP:Hid (aG9 s k=true):=hp;clear hp hin';by_cases hlt:k<s.size
   ·have hb:=aEK s k hlt;have hbd:=aRL s k;have fin0:nbB k (aAL s k)=false->aF1 s=false:=fun h=>by
     have h1:=aMN s s.size k hlt h;rw[aNB s (by omega)] at h1
     rw[aF1];simp only[Bool.and_assoc];rw[h1];simp
    have FIN0:Hid (nbB k (aAL s k)=false->aF1 s=false):=fin0;clear fin0;by_cases h1:97<=aAL s k∧aAL s k<=122
    ·obtain⟨h1,h2⟩:=h1;go_wp2_with fail
     go_round
     case rel=>exact⟨k+1,by omega,by go_num,by rw[aDQ,HP.out];simp[nbB,h1,h2]⟩
     case measure=>simp[intOf];omega
    ·by_cases h3:aAL s k=95
     ·have h1':aAL s k<97:=by omega
      have T:(aAL s k==95)=true:=by simp[h3]
      have N:Hid (nbB k (aAL s k)=true):=by show _=_;simp[nbB,h3]
      clear h1 h3;go_wp2_with fail
      go_round
      case rel=>exact⟨k+1,by omega,by go_num,by rw[aDQ,HP.out,N.out];rfl⟩
      case measure=>simp[intOf];omega
     ·have T:(aAL s k==95)=false:=by simp[h3]
      by_cases hk0:k=0
      ·have N:Hid (nbB k (aAL s k)=false):=by show _=_;grind [nbB]
       have hk0':(k:Int)<=0:=by omega
       clear hk0 h3;have h1':aAL s k<97∨(97<=aAL s k∧122<aAL s k):=by omega
       clear h1;rcases h1' with h1'| ⟨h1',h1''⟩
       ·go_wp2_with fail
        go_ret
        exact⟨aA4 (FIN0.out N.out).symm,rfl⟩
       ·have D:decide (aAL s k<=122)=false:=by simp;omega
        go_wp2_with fail
        go_ret
        exact⟨aA4 (FIN0.out N.out).symm,rfl⟩
      ·have hk0':(0:Int)<(k:Int):=by omega
       by_cases hd:48<=aAL s k∧aAL s k<=57
       ·have N:Hid (nbB k (aAL s k)=true):=by show _=_;simp[nbB,digB];omega
        obtain⟨hd1,hd2⟩:=hd;have h1':aAL s k<97:=by omega
        clear h1 h3;go_wp2_with fail
        go_round
        case rel=>exact⟨k+1,by omega,by go_num,by rw[aDQ,HP.out,N.out];rfl⟩
        case measure=>simp[intOf];omega
       ·have N:Hid (nbB k (aAL s k)=false):=by show _=_;grind [nbB,digB]
        have h1':aAL s k<48∧aAL s k<97∨(48<=aAL s k∧57<aAL s k∧aAL s k<97)∨(97<=aAL s k∧122<aAL s k∧48<=aAL s k∧57<aAL s k):=by omega
        clear h1 hd h3;rcases h1' with⟨a1,a2⟩| ⟨a1,a2,a3⟩| ⟨a1,a2,a3,a4⟩
        ·go_wp2_with fail
         go_ret
         exact⟨aA4 (FIN0.out N.out).symm,rfl⟩
        ·have D:decide (aAL s k<=57)=false:=by simp;omega
         go_wp2_with fail
         go_ret
         exact⟨aA4 (FIN0.out N.out).symm,rfl⟩
        ·have D:decide (aAL s k<=57)=false:=by simp;omega
         have D':decide (aAL s k<=122)=false:=by simp;omega
         go_wp2_with fail
         go_ret
         exact⟨aA4 (FIN0.out N.out).symm,rfl⟩
   ·go_wp2_with fail
    go_ret
    have e:k=s.size:=by omega
    exact⟨aA4 (by have h1:=aNB s (by omega);rw[<-e] at h1;rw[HP.out] at h1;rw[aF1];simp only[Bool.and_assoc];rw[<-e,<-h1];simp;omega),rfl⟩
 ·have hin':(decide ((1:Int)<=s.size)&&decide ((s.size:Int)<=9))=false:=by simp;omega
  go_enter Tryz.func101,Tryz.ntmps101
  go_wp2_with (go_at_call 141;refine(aOS _ _ _ _).mono ?_;rw[hin'];rintro e w' ⟨rfl,rfl⟩)
  go_ret
  exact⟨aA4 (by rw[aF1];simp;omega),rfl⟩
def nth(ns:List ByteArray)(i:Nat):ByteArray:=ns.getD i ByteArray.empty
def Strs(w:World)(P:Nat->Prop)(ns:List ByteArray)(a:Option Addr):Prop:=
 (ns≠[]->∃b off,a=some ⟨b,off,none⟩∧P b∧∀i,i<ns.length->w.cell? ⟨b,off+i,none⟩=some (.string (nth ns i)))∧
 (∀i,(nth ns i).size<=maxLen)∧ns.length<=maxLen
theorem Strs.mono{w w':World}{P:Nat->Prop}{ns:List ByteArray}{a:Option Addr}(h:Strs w P ns a)(e:∀k,P k->w'.heap[k]?=w.heap[k]?):Strs w' P ns a:=by
 refine⟨fun hn=>?_,h.2⟩;obtain⟨b,off,ha,hP,hc⟩:=h.1 hn;exact⟨b,off,ha,hP,fun i hi=>(World.cell?_of_block (w:=w) (a:=⟨b,off+i,none⟩) (e b hP)).trans (hc i hi)⟩
theorem Strs.sub{w:World}{P Q:Nat->Prop}{ns:List ByteArray}{a:Option Addr}(h:Strs w P ns a)(e:∀k,P k->Q k):Strs w Q ns a:=by
 refine⟨fun hn=>?_,h.2⟩;obtain⟨b,off,ha,hP,hc⟩:=h.1 hn;exact⟨b,off,ha,e _ hP,hc⟩
def aEH(ns:List ByteArray)(n:Nat):Nat:=((List.range n).map fun i=>(nth ns i).size).sum
theorem aFS(ns:List ByteArray)(n:Nat):aEH ns (n+1)=aEH ns n+(nth ns n).size:=by
 simp[aEH,List.range_succ]
def szNs(ns:List ByteArray):Nat:=ns.length+aEH ns ns.length
set_option maxHeartbeats 400000 in
theorem aLM(ns:List ByteArray)(a:Option Addr)(c:Nat)(w:World)(P:Nat->Prop)(hS:Strs w P ns a)(left:Int)(hl0:0<=left)(hl1:left<=1048576):
  Calls Tryz.prog 168 #[.slice a ns.length c,.int .i64 left] w fun e w'=>∃x:Int,e=.returned (.int .i64 x)∧-1<=x∧x<=left∧(0<=x->x+szNs ns<=left)∧w=w':=by
 obtain⟨h1,h2,h3⟩:=hS;unfold maxLen at h3 h2;by_cases hbig:left<ns.length
 ·go_enter Tryz.func168,Tryz.ntmps168
  go_wp2
  go_ret
  exact⟨-1,rfl,by omega,by omega,by omega,rfl⟩
 by_cases hn0:ns.length=0
 ·have hns:ns=[]:=by simpa using hn0
  subst hns;go_enter Tryz.func168,Tryz.ntmps168
  go_wp2
  go_loop [1,5] (fun l i=>i=.int .i64 0∧l=.int .i64 left) (fun _ _=>0)
  case atStart=>exact⟨rfl,rfl⟩
  case round=>
   obtain⟨rfl,rfl⟩:=hrel;go_wp2
   go_ret
   exact⟨left,rfl,by omega,by omega,by simp[szNs,aEH],rfl⟩
 ·obtain⟨b,off,rfl,_,hc⟩:=h1 (by intro e;simp[e] at hn0)
  clear h1;go_enter Tryz.func168,Tryz.ntmps168
  go_wp2
  go_loop [1,5] (fun l i=>∃(k:Nat) (x:Int),k<=ns.length∧i=.int .i64 k∧l=.int .i64 x∧0<=x∧x<=left∧x+aEH ns k+ns.length=left) (fun _ i=>ns.length- (intOf i).toNat)
  case atStart=>exact⟨0,_,Nat.zero_le _,rfl,rfl,by omega,by omega,by simp[aEH]⟩
  case round=>
   obtain⟨k,x,hk,rfl,rfl,hx0,hx1,hx2⟩:=hrel;have HX:Hid (x+aEH ns k+ns.length=left):=hx2;clear hx2;by_cases hlt:k<ns.length
   ·have hck:=hc k hlt;have h2k:=h2 k;clear hc h2;by_cases hs:x<(nth ns k).size
    ·go_wp2
     go_ret
     exact⟨-1,rfl,by omega,by omega,by omega,rfl⟩
    ·go_wp2
     go_round
     case rel=>exact⟨k+1,_,by omega,by go_num,rfl,by omega,by omega,by have:=HX.out;rw[aFS];omega⟩
     case measure=>simp[intOf];omega
   ·go_wp2
    go_ret
    have e:k=ns.length:=by omega
    exact⟨x,rfl,by omega,by omega,fun _=>by have:=HX.out;rw[szNs];rw[e] at this;omega,rfl⟩
set_option maxHeartbeats 400000 in
theorem aLI(ns:List ByteArray)(a a':Option Addr)(c c':Nat)(w:World)(P P':Nat->Prop)(hS:Strs w P ns a)(hS':Strs w P' ns a'):
  Calls Tryz.prog 18 #[.slice a ns.length c,.slice a' ns.length c'] w fun e w'=>e=.returned (.bool true)∧∃n,w'=w.drewN n:=by
 obtain⟨h1,h2,h3⟩:=hS;obtain⟨g1,-,-⟩:=hS';unfold maxLen at h3;by_cases hn0:ns.length=0
 ·have hns:ns=[]:=by simpa using hn0
  subst hns;go_enter Tryz.func18,Tryz.ntmps18
  go_wp2
  go_loop [5] (fun i=>i=.int .i64 0) (fun _=>0)
  case atStart=>rfl
  case round=>
   subst hrel;go_wp2
   go_ret
   exact⟨rfl,0,rfl⟩
 ·obtain⟨b,off,rfl,_,hc⟩:=h1 (by intro e;simp[e] at hn0)
  obtain⟨b',off',rfl,_,hc'⟩:=g1 (by intro e;simp[e] at hn0)
  clear h1 h2 g1;go_enter Tryz.func18,Tryz.ntmps18
  go_wp2
  go_loopw [5] (fun i wr=>∃k m:Nat,k<=ns.length∧i=.int .i64 k∧wr=w.drewN m) (fun i _=>ns.length- (intOf i).toNat)
  case atStart=>exact⟨0,0,Nat.zero_le _,rfl,rfl⟩
  case round=>
   obtain⟨k,m,hk,rfl,rfl⟩:=hrel;by_cases hlt:k<ns.length
   ·have hck:=hc k hlt;have hck':=hc' k hlt;clear hc hc';go_wp2
    go_quiet (fail)
    go_wp2
    go_roundw
    case rel=>exact⟨k+1,_,by omega,by go_num,rfl⟩
    case measure=>simp[intOf];omega
   ·go_wp2
    go_ret
    exact⟨rfl,m,rfl⟩
theorem aA2(w:World)(o:Obj):Below w.heap.size w (w.alloc o):=(Below.refl _ _).alloc (Nat.le_refl _) _
theorem aA6(w:World)(o p:Obj):Below w.heap.size w ((w.alloc o).alloc p):=(aA2 w o).alloc (by simp) _
theorem aAQ{B:Nat}{a w:World}(h:Below B a w)(n:Nat):Below B a (w.drewN n):=⟨h.os,h.tape,h.output,h.size,h.block⟩
theorem aAF{w w':World}(h:Below w.drew.heap.size w.drew w'):Below w.heap.size w w':=⟨h.os,h.tape,h.output,h.size,h.block⟩
theorem aUJ{W w1:World}(hb:Below W.heap.size W w1):(∀b o,b<W.heap.size->w1.cell? ⟨b,o,none⟩=W.cell? ⟨b,o,none⟩)∧(∀b o,b<W.heap.size->w1.frozen? ⟨b,o,none⟩=W.frozen? ⟨b,o,none⟩):=
 ⟨fun b o h=>hb.cell (p:=⟨b,o,none⟩) h,fun b o h=>hb.frozen (p:=⟨b,o,none⟩) h⟩
theorem Strs.under{w w':World}{B:Nat}{x:List ByteArray}{v:Option Addr}(h:Strs w (·<B) x v)(hb:Below B w w'):Strs w' (·<B) x v:=h.mono fun k hk=>hb.block k hk
theorem aC1(w:World)(a:Addr)(v:Value):(w.setCell a v).heap.size=w.heap.size:=by simp[World.setCell]
theorem aF6{P:Program}(t e:TypeId)(z:Value)(zc:Array Value)(hzc:z.cells=zc)(size bytes:Nat)(ht:P.underlying t=some (.slice e))(hinfo:(P.info? e).map (fun i=>(i.zero,i.size,i.bytes))=some (some z,size,bytes))
  (kl kc:IntKind) (n:Nat) (hbytes:bytes*n<=281474976710656) (h63:n<=9223372036854775807) (w:World):
  (Instr.makeSlice t (.int kl (n:Int)) (.int kc (n:Int))).run P w=.ok (.slice (some ⟨w.heap.size,0,none⟩) n n) (w.alloc (.cells (madeCells zc (n*size)) e)):=by
 obtain⟨i,hi,hzz⟩:=Option.map_eq_some_iff.1 hinfo;simp only[Prod.mk.injEq] at hzz;obtain⟨hz,hs,hb⟩:=hzz;have hb':(i.bytes:Int)*(n:Int)<=281474976710656:=by
  have h:((i.bytes*n:Nat):Int)<=281474976710656:=by rw[hb];omega
  rwa [Int.natCast_mul] at h
 have hr:=run_make (P:=P) w t e i z ht hi hz kl kc n n (by omega) (Int.le_refl _) hb' (by omega)
 simp only[Int.toNat_natCast,hs,hzc] at hr;exact hr
def puts(w:World)(N:Nat):Nat->List Value->World
 |_,[]=>w
 |k,c::cs=>puts (w.setCell ⟨N,k,none⟩ c) N (k+1) cs
theorem aC6(N b:Nat)(h:b≠N):∀(cs:List Value) (w:World) (k:Nat),(puts w N k cs).heap[b]?=w.heap[b]?
 |[],_,_=>rfl
 |c::cs,w,k=>(aC6 N b h cs _ (k+1)).trans (Below.heap_setCell _ _ _ _ h)
theorem aCC(N:Nat):∀(cs:List Value) (w:World) (k:Nat),(puts w N k cs).heap.size=w.heap.size
 |[],_,_=>rfl
 |c::cs,w,k=>(aCC N cs _ (k+1)).trans (aC1 _ _ _)
theorem aC5{a:World}{B N:Nat}(hN:B<=N):∀(cs:List Value) (w:World) (k:Nat),Below B a w->Below B a (puts w N k cs)
 |[],_,_,h=>h
 |c::cs,w,k,h=>aC5 hN cs _ (k+1) (h.setCell hN _)
theorem aFP{N L:Nat}{e:TypeId}:∀(cs:List Value) {w:World} {G:Nat->Value} (k:Nat),w.rowIs N e L G->∃G':Nat->Value,(puts w N k cs).rowIs N e L G'∧(∀j,j<cs.length->G' (k+j)=cs.getD j undef)∧∀i,i<k->G' i=G i
 |[],_,G,k,h=>⟨G,h,fun j hj=>by simp at hj,fun i _=>rfl⟩
 |c::cs,w,G,k,h=>by
  obtain⟨G',h1,h2,h3⟩:=aFP cs (k+1) (h.set k c);refine⟨G',h1,fun j hj=>?_,fun i hi=>?_⟩
  ·cases j with
   |zero=>rw[Nat.add_zero,h3 k (by omega)];simp
   |succ j=>rw[show k+(j+1)=k+1+j by omega,h2 j (by simpa using hj)];simp
  ·rw[h3 i (by omega)];simp[show i≠k by omega]
theorem aL7(w:World)(z:Array Value)(n:Nat)(e:TypeId):∃G:Nat->Value,(w.alloc (.cells (madeCells z n) e)).rowIs w.heap.size e n G:=by
 refine⟨fun i=>(madeCells z n)[i]?.getD undef,?_⟩;have h:=World.rowIs_alloc w (madeCells z n) e (fun i=>(madeCells z n)[i]?.getD undef) (fun i hi=>by simp[hi])
 rw[size_madeCells] at h;exact h
theorem aMV:(Tryz.prog.info? 9).map (fun i=>(i.zero,i.size,i.bytes))=some (some (.string ByteArray.empty),1,16):=by kernel_rfl
def NF(lo:Nat)(w:World):Prop:=∀a:Addr,lo<=a.block->w.frozen? a=false
theorem NF.new(w:World):NF w.heap.size w:=fun a h=>by simp[World.frozen?,Array.getElem?_eq_none h]
theorem NF.alloc{lo:Nat}{w:World}(h:NF lo w)(c:Array Value)(t:TypeId):NF lo (w.alloc (.cells c t)):=fun a ha=>by rw[frozen?_alloc_cells];exact h a ha
theorem NF.set{lo:Nat}{w:World}(h:NF lo w)(p:Addr)(v:Value):NF lo (w.setCell p v):=fun a ha=>by rw[World.frozen?_setCell];exact h a ha
theorem NF.call{lo:Nat}{w w':World}(h:NF lo w)(hb:Below w.heap.size w w')(h':NF w.heap.size w'):NF lo w':=fun a ha=>by
 rcases Nat.lt_or_ge a.block w.heap.size with h1| h1
 ·rw[hb.frozen h1];exact h a ha
 ·exact h' a h1
theorem NF.three(w:World)(c1 c2 c3:Array Value)(t1 t2 t3:TypeId):NF w.heap.size (((w.alloc (.cells c1 t1)).alloc (.cells c2 t2)).alloc (.cells c3 t3)):=(((NF.new w).alloc c1 t1).alloc c2 t2).alloc c3 t3
set_option maxHeartbeats 400000 in
theorem aMD(ns:List ByteArray)(a:Option Addr)(c:Nat)(w:World)(hS:Strs w (·<w.heap.size) ns a)(hb:16*ns.length<=281474976710656):
  Calls Tryz.prog 169 #[.slice a ns.length c] w fun e w'=>e=.returned (.slice (some ⟨w.heap.size,0,none⟩) ns.length ns.length)∧Below w.heap.size w w'∧w'.heap.size=w.heap.size+1∧
   Strs w' (·=w.heap.size) ns (some ⟨w.heap.size,0,none⟩)∧NF w.heap.size w':=by
 have hS':=hS;obtain⟨h1,h2,h3⟩:=hS;unfold maxLen at h3;have hmk:=run_make_row' (P:=Tryz.prog) 33 9 (.string ByteArray.empty) 16 Tryz.underlying33 aMV rfl .i64 .i64 ns.length hb h3;go_enter Tryz.func169,Tryz.ntmps169
 go_wp2
 go_loopw [4] (fun i wr=>∃k:Nat,k<=ns.length∧i=.int .i64 k∧Below w.heap.size w wr∧wr.heap.size=w.heap.size+1∧wr.rowIs w.heap.size 9 ns.length (fun j=>if j<k then .string (nth ns j) else .string ByteArray.empty)∧NF w.heap.size wr) (fun i _=>ns.length- (intOf i).toNat)
 case atStart=>
  refine⟨0,Nat.zero_le _,rfl,(Below.refl _ _).alloc (Nat.le_refl _) _,by simp,?_,(NF.new w).alloc _ _⟩
  exact(World.rowIs_made w _ _ _).congr fun i hi=>by simp
 case round=>
  obtain⟨k,hk,rfl,hbel,hsz,hrow,hnf⟩:=hrel;have HNF:Hid (NF w.heap.size wr):=hnf;clear hnf;by_cases hlt:k<ns.length
  ·obtain⟨b,off,rfl,hbl,hc⟩:=h1 (by intro e;simp[e] at hlt)
   have hck:wr.cell? ⟨b,off+k,none⟩=some (.string (nth ns k)):=(hbel.cell (p:=⟨b,off+k,none⟩) hbl).trans (hc k hlt);have hfz:wr.frozen? ⟨w.heap.size,k,none⟩=false:=hrow.frozen k;have hcc:∃v,wr.cell? ⟨w.heap.size,k,none⟩=some v:=⟨_,hrow.cell hlt⟩;obtain⟨v,hcv⟩:=hcc;go_wp2
   go_roundw
   case rel=>
    refine⟨k+1,by omega,by go_num,hbel.setCell (Nat.le_refl _) _,by simp[World.setCell,hsz],?_,HNF.out.set _ _⟩
    refine(hrow.set k _).congr fun i hi=>?_;by_cases e1:i=k
    ·subst e1;simp
    ·by_cases e2:i<k
     ·simp[e1,e2,show i<k+1 by omega]
     ·simp[e1,e2,show¬i<k+1 by omega]
   case measure=>simp[intOf];omega
  ·go_wp2
   go_ret
   have e:k=ns.length:=by omega
   subst e;refine⟨rfl,hbel,hsz,⟨fun _=>⟨_,0,rfl,rfl,fun i hi=>?_⟩,h2,by unfold maxLen;omega⟩,HNF.out⟩
   have:=hrow.cell hi;rw[if_pos hi] at this;simpa using this
end Go.Proofs.YtcebpkeiaiiphaaGreatDoor
namespace Go.Proofs.YtcebpkeiaiiphaaGreatDoor
open Go.RowKit Go.Maps Go.ChangeMaps Go.MapKept
structure aPR(P:Program)(k:TypeId)(I:Value->Prop)(w:World):Prop where
 fields:∃fs,P.underlying k=some (.struct fs)
 check:∀(em:Bool) (v:Value),I v->(Instr.checkKey em 10000 k v).run P w=.ok () w
 same:∀v:Value,I v->(Op.equal k v v).run P w=.ok true w
 differ:∀u v:Value,I u->I v->u≠v->(Op.equal k u v).run P w=.ok false w
 stays:∀v:Value,I v->Instr.sameBits 10000 v v=true
theorem aH6{P:Program}{k:TypeId}{I:Value->Prop}{w:World}(K:aPR P k I w)(x:Value)(hx:I x):∀(es:List MapEntry) (i:Nat),(∀e∈ es,I e.key)->
  ((Instr.findAsking k x es i).run P w=.ok none w∧∀e∈ es,e.key≠x)∨∃j e,(Instr.findAsking k x es i).run P w=.ok (some (i+j,e.val)) w∧es[j]?=some e∧e.key=x
 |[],i,_=>Or.inl ⟨by simp[Instr.findAsking],by simp⟩
 |e::es,i,h=>by
  have he:=h e (by simp)
  by_cases hk:e.key=x
  ·refine Or.inr ⟨0,e,?_,rfl,hk⟩;have h1:=K.same x hx;simp[Instr.findAsking,hk,h1,Result.andThen]
  ·have h1:=K.differ x e.key hx he (fun h=>hk h.symm);rcases aH6 K x hx es (i+1) (fun e' he'=>h e' (by simp[he'])) with⟨h2,h3⟩| ⟨j,e',h2,h3,h4⟩
   ·refine Or.inl ⟨?_,fun e' he'=>?_⟩
    ·simp[Instr.findAsking,h1,h2,Result.andThen]
    ·rcases List.mem_cons.1 he' with rfl| h5
     ·exact hk
     ·exact h3 e' h5
   ·refine Or.inr ⟨j+1,e',?_,by simpa using h3,h4⟩
    simp[Instr.findAsking,h1,h2,Result.andThen];omega
theorem aPL{P:Program}{k:TypeId}{I:Value->Prop}{w:World}(K:aPR P k I w)(x:Value)(hx:I x)(es:List MapEntry)(h:∀e∈ es,I e.key):
  ((Instr.findKey k x es).run P w=.ok none w∧∀e∈ es,e.key≠x)∨∃j e,(Instr.findKey k x es).run P w=.ok (some (j,e.val)) w∧es[j]?=some e∧e.key=x:=by
 obtain⟨fs,hfs⟩:=K.fields
 match es,h with
 |[],_=>exact Or.inl ⟨by simp[Instr.findKey,run_underlying hfs,Instr.findNow,Result.andThen],by simp⟩
 |e::es,h=>
  have hn:Instr.findNow (.struct fs) x (e::es) 0=none:=by simp[Instr.findNow,Instr.sameNow]
  rcases aH6 K x hx (e::es) 0 h with⟨h2,h3⟩| ⟨j,e',h2,h3,h4⟩
  ·exact Or.inl ⟨by simp[Instr.findKey,run_underlying hfs,hn,h2,Result.andThen],h3⟩
  ·exact Or.inr ⟨j,e',by simp[Instr.findKey,run_underlying hfs,hn,h2,Result.andThen],h3,h4⟩
def aDI(w:World)(I:Value->Prop)(b:Nat)(G:Value->Option Value):Prop:=
 ∃es clock,w.heap[b]?=some (.map es clock)∧(∀e∈ es.toList,I e.key∧G e.key=some e.val)∧(∀k v,G k=some v->∃e∈ es.toList,e.key=k)∧es.toList.Pairwise (fun a b=>a.key≠b.key)
theorem aDI.of_block{w w':World}{I:Value->Prop}{b:Nat}{G:Value->Option Value}(h:aDI w I b G)(e:w'.heap[b]?=w.heap[b]?):aDI w' I b G:=by
 obtain⟨es,clock,hb,r⟩:=h;exact⟨es,clock,e.trans hb,r⟩
end Go.Proofs.YtcebpkeiaiiphaaGreatDoor
namespace Go.Proofs.YtcebpkeiaiiphaaGreatDoor
open Go.RowKit
def Arr(w:World)(P:Nat->Prop)(sz len:Nat)(a:Option Addr)(C:Nat->Nat->Value):Prop:=
 0<len->∃b off,a=some ⟨b,off,none⟩∧P b∧∀i,i<len->∀j,j<sz->w.cell? ⟨b,off+i*sz+j,none⟩=some (C i j)
theorem Arr.mono{w w':World}{P:Nat->Prop}{sz len:Nat}{a:Option Addr}{C:Nat->Nat->Value}(h:Arr w P sz len a C)(e:∀k,P k->w'.heap[k]?=w.heap[k]?):Arr w' P sz len a C:=fun hl=>by
 obtain⟨b,off,ha,hb,hc⟩:=h hl;exact⟨b,off,ha,hb,fun i hi j hj=>(World.cell?_of_block (w:=w) (a:=⟨b,off+i*sz+j,none⟩) (e b hb)).trans (hc i hi j hj)⟩
theorem Arr.sub{w:World}{P Q:Nat->Prop}{sz len:Nat}{a:Option Addr}{C:Nat->Nat->Value}(h:Arr w P sz len a C)(e:∀k,P k->Q k):Arr w Q sz len a C:=fun hl=>by
 obtain⟨b,off,ha,hb,hc⟩:=h hl;exact⟨b,off,ha,e _ hb,hc⟩
theorem aAH{B N:Nat}{a w:World}(h:Below B a w)(hN:B<=N)(v0 v1 v2 v3 v4 v5 v6 v7:Value):
  Below B a ((((((((w.setCell ⟨N,0,none⟩ v0).setCell ⟨N,1,none⟩ v1).setCell ⟨N,2,none⟩ v2).setCell ⟨N,3,none⟩ v3).setCell ⟨N,4,none⟩ v4).setCell ⟨N,5,none⟩ v5).setCell ⟨N,6,none⟩ v6).setCell ⟨N,7,none⟩ v7):=
 aC5 hN [v0,v1,v2,v3,v4,v5,v6,v7] w 0 h
theorem aCZ{N b:Nat}(h:b≠N)(w:World)(v0 v1 v2 v3 v4 v5 v6 v7:Value):
  ((((((((w.setCell ⟨N,0,none⟩ v0).setCell ⟨N,1,none⟩ v1).setCell ⟨N,2,none⟩ v2).setCell ⟨N,3,none⟩ v3).setCell ⟨N,4,none⟩ v4).setCell ⟨N,5,none⟩ v5).setCell ⟨N,6,none⟩ v6).setCell ⟨N,7,none⟩ v7).heap[b]?=w.heap[b]?:=
 aC6 N b h [v0,v1,v2,v3,v4,v5,v6,v7] w 0
theorem aJ3{N:Nat}(w:World)(v0 v1 v2 v3 v4 v5 v6 v7:Value):
  ((((((((w.setCell ⟨N,0,none⟩ v0).setCell ⟨N,1,none⟩ v1).setCell ⟨N,2,none⟩ v2).setCell ⟨N,3,none⟩ v3).setCell ⟨N,4,none⟩ v4).setCell ⟨N,5,none⟩ v5).setCell ⟨N,6,none⟩ v6).setCell ⟨N,7,none⟩ v7).heap.size=w.heap.size:=
 aCC N [v0,v1,v2,v3,v4,v5,v6,v7] w 0
theorem aBQ{w:World}{N:Nat}{c:Array Value}{T:TypeId}(hb:w.heap[N]?=some (.cells c T (0,0)))(hc:c.size=8)(v0 v1 v2 v3 v4 v5 v6 v7:Value)(W:World)
  (hW:W.heap[N]?=((((((((w.setCell ⟨N,0,none⟩ v0).setCell ⟨N,1,none⟩ v1).setCell ⟨N,2,none⟩ v2).setCell ⟨N,3,none⟩ v3).setCell ⟨N,4,none⟩ v4).setCell ⟨N,5,none⟩ v5).setCell ⟨N,6,none⟩ v6).setCell ⟨N,7,none⟩ v7).heap[N]?):
  W.cell? ⟨N,0,none⟩=some v0∧W.cell? ⟨N,1,none⟩=some v1∧W.cell? ⟨N,2,none⟩=some v2∧W.cell? ⟨N,3,none⟩=some v3∧W.cell? ⟨N,4,none⟩=some v4∧W.cell? ⟨N,5,none⟩=some v5∧W.cell? ⟨N,6,none⟩=some v6∧W.cell? ⟨N,7,none⟩=some v7:=by
 have hrow:w.rowIs N T 8 (fun i=>c[i]?.getD undef):=⟨c,hb,hc,fun i hi=>by simp[show i<c.size by omega]⟩
 obtain⟨G',hG,hG1,-⟩:=aFP [v0,v1,v2,v3,v4,v5,v6,v7] 0 hrow;have hG2:W.rowIs N T 8 G':=hG.of_block hW;have g:∀j,j<8->W.cell? ⟨N,j,none⟩=some ([v0,v1,v2,v3,v4,v5,v6,v7].getD j undef):=fun j hj=>by
  have:=hG1 j hj;rw[Nat.zero_add] at this;rw[hG2.cell hj,this]
 exact⟨g 0 (by omega),g 1 (by omega),g 2 (by omega),g 3 (by omega),g 4 (by omega),g 5 (by omega),g 6 (by omega),g 7 (by omega)⟩
def aVA(w:World)(a:Addr):Prop:=(∃s,w.cell? a=some (.string s))∧w.frozen? a=false
def aNO(w:World)(lo hi n:Nat)(a:Option Addr):Prop:=0<n->∃b off,a=some ⟨b,off,none⟩∧lo<=b∧b<hi∧∀i,i<n->aVA w ⟨b,off+i,none⟩
theorem tgH(n:Nat){p:Prop}(h:Hid (n=n)->p):p:=h rfl
section
variable {P:Program} {ops:Array Oper} {Q:Exit->Act->World->Prop} {md:Region.Mode} {S:World->Prop}
theorem tkL(i:Nat){oi:Oper}{v:Value}{fuel:Nat}{listed l':Array Bool}{a a':Act}{w:World}(hS:S w)(h:wpAnyH P md ops Q S fuel l' a' w)
  (hr:((Region.ready md ops listed).contains i&&Region.free md ops listed i)=true:=by decide +kernel)
  (hi:ops.toList[i]?=some oi:=by exact rfl) (hs:Region.noSelect ops=true:=by kernel_rfl)
  (hw:Region.wanted oi (yielded ops a.tmps)=true:=by exact rfl)
  (hy:∀w',S w'->(execOp a.eval oi).run P w'=.ok (.value v) w':=by(intro w' hSw;(try dsimp only at hSw);go_simp;try with_reducible rfl))
  (hQ:∀c a w,Q (.panic c) (a.put oi.dst v) w->Q (.panic c) a w:=by exact fun _ _ _ h=>h)
  (ha:a.put oi.dst v=a':=by((try simp only[Act.put,sIA,sI0,sIS]);try rfl))
  (hl:listed.setIfInBounds i true=l':=by((try simp only[sIA,sI0,sIS]);try rfl)):wpAnyH P md ops Q S (fuel+1) listed a w:=by
 rw[Bool.and_eq_true] at hr;exact tkH i hS h hi hs hr.2 hr.1 hw hy hQ ha hl
theorem rdyL(rs:List Nat){fuel:Nat}{listed:Array Bool}{a:Act}{w:World}(h:AllReadyH P md ops Q S fuel listed a w rs)(hr:Region.ready md ops listed=rs:=by decide +kernel)(hne:rs≠[]:=by simp):wpAnyH P md ops Q S (fuel+1) listed a w:=wpAnyH_ready hr hne h
end
end Go.Proofs.YtcebpkeiaiiphaaGreatDoor
