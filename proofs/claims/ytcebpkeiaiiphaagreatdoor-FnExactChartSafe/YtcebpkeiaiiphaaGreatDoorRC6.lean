import Derived.Test.YtcebpkeiaiiphaaGreatDoorRC4
set_option linter.unusedSimpArgs false
set_option linter.unusedVariables false
namespace Go.Proofs.YtcebpkeiaiiphaaGreatDoor
open Go.RowKit
def ofB(f:F):ByteArray:=if f.must then(if f.list then⟨#[91]⟩++f.of++⟨#[93]⟩ else f.of)++⟨#[33]⟩ else(if f.list then⟨#[91]⟩++f.of++⟨#[93]⟩ else f.of)
def aJE(f:F):ByteArray:=⟨#[32,32]⟩++f.name++⟨#[32]⟩++ofB f
def farB(f:F):ByteArray:=if f.far then aJE f++⟨#[32,102,97,114]⟩ else aJE f
def hidB(f:F):ByteArray:=if f.hidden then farB f++⟨#[32,104,105,100,100,101,110]⟩ else farB f
def shaB(f:F):ByteArray:=if f.shared then hidB f++⟨#[32,115,104,97,114,101,100]⟩ else hidB f
def aH9(f:F):ByteArray:=if 0<f.needs.length then shaB f++⟨#[32,110,101,101,100,115]⟩ else shaB f
def aDF(f:F):Nat->ByteArray
 |0=>aH9 f
 |k+1=>aDF f k++⟨#[32]⟩++nth f.needs k
def aGN(f:F):ByteArray:=aDF f f.needs.length++⟨#[10]⟩
theorem aCB(a:Array UInt8):(⟨a⟩:ByteArray).size=a.size:=rfl
theorem aLR(f:F):(ofB f).size<=f.of.size+3:=by
 unfold ofB;split<;>split<;>(first| simp only[ByteArray.size_append,aCB,List.size_toArray,List.length_cons,List.length_nil]| skip)<;>omega
theorem aPX(f:F):(aH9 f).size<=f.name.size+f.of.size+32:=by
 have:=aLR f;unfold aH9 shaB hidB farB aJE;split<;>split<;>split<;>split<;>simp only[ByteArray.size_append,aCB,List.size_toArray,List.length_cons,List.length_nil]<;>omega
theorem aES(f:F):∀k,(aDF f k).size<=f.name.size+f.of.size+32+k+aEH f.needs k
 |0=>by have:=aPX f;simp only[aDF,aEH];simp;omega
 |k+1=>by
  have:=aES f k;rw[aDF,aFS];simp only[ByteArray.size_append,aCB,List.size_toArray,List.length_cons,List.length_nil];omega
theorem aP9(ns:List ByteArray)(k:Nat):∀n,k<=n->aEH ns k<=aEH ns n
 |0,h=>by rw[show k=0 by omega];exact Nat.le_refl _
 |n+1,h=>by
  by_cases e:k=n+1
  ·rw[e];exact Nat.le_refl _
  ·have:=aP9 ns k n (by omega);rw[aFS];omega
theorem aQM(f:F)(hz:szF f<=1048576):∃L:Nat->ByteArray,L 0=aH9 f∧(∀k,L (k+1)=L k++⟨#[32]⟩++nth f.needs k)∧aGN f=L f.needs.length++⟨#[10]⟩∧∀k,k<=f.needs.length->(L k).size<=2097152:=by
 refine⟨aDF f,rfl,fun _=>rfl,rfl,fun k hk=>?_⟩;have h1:=aES f k;have h2:=aP9 f.needs k _ hk;have hz':f.name.size+f.of.size+(f.needs.length+aEH f.needs f.needs.length)<=1048576:=hz;omega
set_option maxHeartbeats 64000000 in
theorem aKP(name of:ByteArray)(l m fr hi sh:Bool)(needs:List ByteArray)(w:World)(na:Option Addr)(nc:Nat)(hS:Strs w (·<w.heap.size) needs na)(hz:szF ⟨name,of,l,m,fr,hi,sh,needs⟩<=1048576):
  Calls Tryz.prog 104 #[.agg #[.string name,.string of,.bool l,.bool m,.bool fr,.bool hi,.bool sh,.slice na needs.length nc]] w fun e w'=>e=.returned (.string (aGN ⟨name,of,l,m,fr,hi,sh,needs⟩))∧Below w.heap.size w w':=by
 obtain⟨hS1,hS2,hS3⟩:=hS;unfold maxLen at hS3;have hz':name.size+of.size+(needs.length+aEH needs needs.length)<=1048576:=hz;obtain⟨L,hL0,hLs,hLe,hLz⟩:=aQM _ hz;rw[hLe];clear hLe hz;simp only[aH9,shaB,hidB,farB,aJE,ofB] at hL0 hLs hLz ⊢;by_cases h0:needs.length=0
 ·have hz0:decide (0<needs.length)=false:=by simp[h0]
  have hz1:decide (0<(needs.length:Int))=false:=by simp[h0]
  have hz2:¬0<needs.length:=by omega
  simp only[hz2,if_false] at hL0;clear hS1 hS2;cases l<;>cases m<;>cases fr<;>cases hi<;>cases sh<;>
  ·simp only[if_true,if_false,Bool.false_eq_true] at hL0;go_enter Tryz.func104,Tryz.ntmps104
   go_wp2_with fail
   go_loopw [4,5] (fun o i wr=>i=.int .i64 0∧o=.string (L 0)∧Below w.heap.size w wr∧wr.cell? ⟨w.heap.size,7,none⟩=some (.slice na needs.length nc)) (fun _ _ _=>0)
   case atStart=>exact⟨rfl,by rw[hL0],aA2 _ _,by simp[h0]⟩
   case round=>
    obtain⟨rfl,rfl,hbel,hx7⟩:=hrel;have s1:=hLz 0 (Nat.zero_le _);clear hL0 hLz hz';go_wp2_with fail
    go_ret
    exact⟨by rw[h0];rfl,hbel⟩
 ·have h1:0<needs.length:=by omega
  have h1':(0:Int)<(needs.length:Int):=by omega
  obtain⟨nb,noff,rfl,hnb,hnc⟩:=hS1 (by intro e;simp[e] at h1)
  clear hS1;simp only[h1,if_true] at hL0;cases l<;>cases m<;>cases fr<;>cases hi<;>cases sh<;>
  ·simp only[if_true,if_false,Bool.false_eq_true] at hL0;go_enter Tryz.func104,Tryz.ntmps104
   go_wp2_with fail
   go_loopw [4,5] (fun o i wr=>∃k:Nat,k<=needs.length∧i=.int .i64 k∧o=.string (L k)∧Below w.heap.size w wr∧wr.cell? ⟨w.heap.size,7,none⟩=some (.slice (some ⟨nb,noff,none⟩) needs.length nc)) (fun _ i _=>needs.length- (intOf i).toNat)
   case atStart=>exact⟨0,Nat.zero_le _,rfl,by rw[hL0],aA2 _ _,by simp⟩
   case round=>
    obtain⟨k,hk,rfl,rfl,hbel,hx7⟩:=hrel;have s1:=hLz k hk;clear hL0 hz';by_cases hlt:k<needs.length
    case neg=>
     go_wp2_with fail
     go_ret
     have e:k=needs.length:=by omega
     exact⟨by rw[<-e];rfl,hbel⟩
    have hki:(k:Int)<(needs.length:Int):=by omega
    have s2:(L k).size+1+(nth needs k).size<=2097152:=by have:=hLz (k+1) hlt;rw[hLs] at this;simpa[ByteArray.size_append,aCB] using this
    have hnk:wr.cell? ⟨nb,noff+k,none⟩=some (.string (nth needs k)):=(hbel.cell (p:=⟨nb,noff+k,none⟩) hnb).trans (hnc k hlt);go_wp2_with fail
    go_roundw
    case rel=>exact⟨k+1,by omega,by go_num,by rw[hLs],hbel,hx7⟩
    case measure=>simp[intOf];omega
end Go.Proofs.YtcebpkeiaiiphaaGreatDoor
