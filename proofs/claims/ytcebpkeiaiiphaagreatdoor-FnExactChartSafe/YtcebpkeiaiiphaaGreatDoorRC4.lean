import Derived.Test.YtcebpkeiaiiphaaGreatDoorRC3
import Derived.Deep.AppendLies
import Derived.Laws.AppendOwnNone
set_option linter.unusedSimpArgs false
set_option linter.unusedVariables false
namespace Go.Proofs.YtcebpkeiaiiphaaGreatDoor
open Go.RowKit
def isT(s:ByteArray)(l:List UInt8):Bool:=s.toList==l
def aAV(s:ByteArray):Bool:=isT s [105,110,116]||isT s [116,101,120,116]||isT s [98,111,111,108]
set_option maxHeartbeats 400000 in
theorem aAY(s:ByteArray)(w:World):
  Calls Tryz.prog 76 #[.string s] w fun e w'=>e=.returned (.bool (aAV s))∧w=w':=by
 cases h1:(s.toList==[105,110,116])<;>cases h2:(s.toList==[116,101,120,116])<;>
 ·go_enter Tryz.func76,Tryz.ntmps76
  go_wp2
  go_ret
  exact⟨aA4 (by simp only[aAV,isT,h1,h2];rfl),rfl⟩
def aBB(s:ByteArray):Bool:=aF1 s&&decide (s.size<=8)&&!(aAL s 0==95)&&!aAV s&&!isT s [112,97,114,116]&&!isT s [116,121,112,101]&&!isT s [107,101,121]&&!isT s [102,97,114]&&!isT s [104,105,100,100,101,110]&&!isT s [115,104,97,114,101,100]&&!isT s [110,101,101,100,115]
set_option maxHeartbeats 1600000 in
theorem aDP(s:ByteArray)(w:World)(hs:s.size<=maxLen):
  Calls Tryz.prog 72 #[.string s] w fun e w'=>e=.returned (.bool (aBB s))∧w=w':=by
 cases hw:aF1 s
 ·go_enter Tryz.func72,Tryz.ntmps72
  go_wp2_with (first| (go_at_call 101;refine(aBX _ _ hs).mono ?_;rintro e w' ⟨rfl,rfl⟩)| (go_at_call 76;refine(aAY _ _).mono ?_;rintro e w' ⟨rfl,rfl⟩))
  go_ret
  exact⟨aA4 (by simp[aBB,isT,hw]),rfl⟩
 have h1:0<s.size:=by
  rw[aF1] at hw;simp only[Bool.and_eq_true,decide_eq_true_eq] at hw;omega
 have hb0:=aEK s 0 h1;by_cases h8:s.size<=8
 case neg=>
  have h8':¬(s.size:Int)<=8:=by omega
  go_enter Tryz.func72,Tryz.ntmps72
  go_wp2_with (first| (go_at_call 101;refine(aBX _ _ hs).mono ?_;rintro e w' ⟨rfl,rfl⟩)| (go_at_call 76;refine(aAY _ _).mono ?_;rintro e w' ⟨rfl,rfl⟩))
  go_ret
  exact⟨aA4 (by simp[aBB];omega),rfl⟩
 have H8:Hid (decide (s.size<=8)=true):=by show _=_;simpa using h8
 cases hu:(aAL s 0==95);case true=>
  have hu':(aAL s 0 !=95)=false:=by simp only[bne,hu];rfl
  go_enter Tryz.func72,Tryz.ntmps72
  go_wp2_with (first| (go_at_call 101;refine(aBX _ _ hs).mono ?_;rintro e w' ⟨rfl,rfl⟩)| (go_at_call 76;refine(aAY _ _).mono ?_;rintro e w' ⟨rfl,rfl⟩))
  go_ret
  exact⟨aA4 (by simp only[aBB,hu];simp),rfl⟩
 have hu':(aAL s 0 !=95)=true:=by simp only[bne,hu];rfl
 cases hc:aAV s;case true=>
  go_enter Tryz.func72,Tryz.ntmps72
  go_wp2_with (first| (go_at_call 101;refine(aBX _ _ hs).mono ?_;rintro e w' ⟨rfl,rfl⟩)| (go_at_call 76;refine(aAY _ _).mono ?_;rintro e w' ⟨rfl,rfl⟩))
  go_ret
  exact⟨aA4 (by simp only[aBB,hc];simp),rfl⟩
 cases k0:(s.toList==[112,97,114,116]);case true=>
  go_enter Tryz.func72,Tryz.ntmps72
  go_wp2_with (first| (go_at_call 101;refine(aBX _ _ hs).mono ?_;rintro e w' ⟨rfl,rfl⟩)| (go_at_call 76;refine(aAY _ _).mono ?_;rintro e w' ⟨rfl,rfl⟩))
  go_ret
  exact⟨aA4 (by simp only[aBB,isT,k0];simp),rfl⟩
 cases k1:(s.toList==[116,121,112,101]);case true=>
  go_enter Tryz.func72,Tryz.ntmps72
  go_wp2_with (first| (go_at_call 101;refine(aBX _ _ hs).mono ?_;rintro e w' ⟨rfl,rfl⟩)| (go_at_call 76;refine(aAY _ _).mono ?_;rintro e w' ⟨rfl,rfl⟩))
  go_ret
  exact⟨aA4 (by simp only[aBB,isT,k1];simp),rfl⟩
 cases k2:(s.toList==[107,101,121]);case true=>
  go_enter Tryz.func72,Tryz.ntmps72
  go_wp2_with (first| (go_at_call 101;refine(aBX _ _ hs).mono ?_;rintro e w' ⟨rfl,rfl⟩)| (go_at_call 76;refine(aAY _ _).mono ?_;rintro e w' ⟨rfl,rfl⟩))
  go_ret
  exact⟨aA4 (by simp only[aBB,isT,k2];simp),rfl⟩
 cases k3:(s.toList==[102,97,114]);case true=>
  go_enter Tryz.func72,Tryz.ntmps72
  go_wp2_with (first| (go_at_call 101;refine(aBX _ _ hs).mono ?_;rintro e w' ⟨rfl,rfl⟩)| (go_at_call 76;refine(aAY _ _).mono ?_;rintro e w' ⟨rfl,rfl⟩))
  go_ret
  exact⟨aA4 (by simp only[aBB,isT,k3];simp),rfl⟩
 cases k4:(s.toList==[104,105,100,100,101,110]);case true=>
  go_enter Tryz.func72,Tryz.ntmps72
  go_wp2_with (first| (go_at_call 101;refine(aBX _ _ hs).mono ?_;rintro e w' ⟨rfl,rfl⟩)| (go_at_call 76;refine(aAY _ _).mono ?_;rintro e w' ⟨rfl,rfl⟩))
  go_ret
  exact⟨aA4 (by simp only[aBB,isT,k4];simp),rfl⟩
 cases k5:(s.toList==[115,104,97,114,101,100]);case true=>
  go_enter Tryz.func72,Tryz.ntmps72
  go_wp2_with (first| (go_at_call 101;refine(aBX _ _ hs).mono ?_;rintro e w' ⟨rfl,rfl⟩)| (go_at_call 76;refine(aAY _ _).mono ?_;rintro e w' ⟨rfl,rfl⟩))
  go_ret
  exact⟨aA4 (by simp only[aBB,isT,k5];simp),rfl⟩
 go_enter Tryz.func72,Tryz.ntmps72
 go_wp2_with (first| (go_at_call 101;refine(aBX _ _ hs).mono ?_;rintro e w' ⟨rfl,rfl⟩)| (go_at_call 76;refine(aAY _ _).mono ?_;rintro e w' ⟨rfl,rfl⟩))
 go_ret
 exact⟨aA4 (by simp only[aBB,isT,hw,H8.out,hu,hc,k0,k1,k2,k3,k4,k5];simp),rfl⟩
def aA9(p:Nat->Bool)(n:Nat):Int:=match (List.range n).find? p with
 |some i=>i
 |none=>-1
theorem aB3{p:Nat->Bool}{n:Nat}(h:∀i,i<n->p i=false):aA9 p n=-1:=by
 have:(List.range n).find? p=none:=by
  rw[List.find?_eq_none];intro i hi;simpa using h i (by simpa using hi)
 rw[aA9,this]
theorem aAX{p:Nat->Bool}{n k:Nat}(h:∀i,i<k->p i=false)(hk:p k=true)(hn:k<n):aA9 p n=k:=by
 have:(List.range n).find? p=some k:=by
  rw[List.find?_range_eq_some];exact⟨hk,by simpa using hn,fun i hi=>by simpa using h i hi⟩
 rw[aA9,this]
theorem aA8(p:Nat->Bool)(n:Nat):(aA9 p n=-1∧∀i,i<n->p i=false)∨∃k:Nat,aA9 p n=k∧k<n∧p k=true∧∀i,i<k->p i=false:=by
 cases h:(List.range n).find? p with
 |none=>
  left;refine⟨by rw[aA9,h],fun i hi=>?_⟩
  rw[List.find?_eq_none] at h;simpa using h i (by simpa using hi)
 |some k=>
  right;rw[List.find?_range_eq_some] at h;exact⟨k,by rw[aA9,List.find?_range_eq_some.2 h],by simpa using h.2.1,h.1,fun i hi=>by simpa using h.2.2 i hi⟩
set_option maxHeartbeats 400000 in
theorem aDO(p:Pt)(w:World)(B:Nat)(v:Value)(s:ByteArray)(hR:PRep w (·<B) p v)(hB:B<=w.heap.size):
  Calls Tryz.prog 62 #[v,.string s] w fun e w'=>e=.returned (.int .i64 (aA9 (fun i=>(tth p.types i).name.toList==s.toList) p.types.length))∧Below w.heap.size w w':=by
 obtain⟨name,types⟩:=p;obtain⟨ta,tc,rfl,hK,hnc,hn⟩:=hR;simp only at hK hnc hn ⊢;have h3:=hK.1;obtain⟨-,C,hA,hr⟩:=hK;by_cases hn0:types.length=0
 ·go_enter Tryz.func62,Tryz.ntmps62
  go_wp2_with fail
  go_loop [5] (fun i=>i=.int .i64 0) (fun _=>0)
  case atStart=>rfl
  case round=>
   subst hrel;go_wp2_with fail
   go_ret
   exact⟨aBZ (by first| rfl| (rw[hn0];rfl)),aA2 _ _⟩
 ·obtain⟨b,off,rfl,hbB,hc⟩:=hA (by omega)
  have hcell:∀k,k<types.length->∀o,(w.alloc o).cell? ⟨b,off+k*3,none⟩=some (.string (tth types k).name):=fun k hk o=>by
   have h1:=hc k hk 0 (by omega)
   have h2:C k 0=.string (tth types k).name:=by
    obtain⟨x,y,hv,-⟩:=hr k hk;simp only[Value.agg.injEq,Array.mk.injEq,List.cons.injEq] at hv;exact hv.1
   rw[h2] at h1;exact((aA2 w o).cell (p:=⟨b,off+k*3,none⟩) (by show b<_;omega)).trans h1
  clear hc;go_enter Tryz.func62,Tryz.ntmps62
  go_wp2_with fail
  go_loop [5] (fun i=>∃k:Nat,k<=types.length∧i=.int .i64 k∧∀j,j<k->((tth types j).name.toList==s.toList)=false) (fun i=>types.length- (intOf i).toNat)
  case atStart=>exact⟨0,Nat.zero_le _,rfl,fun j hj=>by omega⟩
  case round=>
   obtain⟨k,hk,rfl,hp⟩:=hrel;have HP:Hid (∀j,j<k->((tth types j).name.toList==s.toList)=false):=hp;clear hp;by_cases hlt:k<types.length
   ·have hck:=hcell k hlt;clear hcell;cases he:((tth types k).name.toList==s.toList)
    ·go_wp2_with fail
     go_round
     case rel=>exact⟨k+1,by omega,by go_num,fun j hj=>by by_cases e:j=k;(subst e;exact he);exact HP.out j (by omega)⟩
     case measure=>simp[intOf];omega
    ·go_wp2_with fail
     go_ret
     exact⟨aBZ (aAX HP.out he hlt).symm,aA2 _ _⟩
   ·go_wp2_with fail
    go_ret
    have e:k=types.length:=by omega
    exact⟨aBZ (aB3 (e▸HP.out)).symm,aA2 _ _⟩
set_option maxHeartbeats 400000 in
theorem aD3(t:T)(w:World)(B:Nat)(v:Value)(s:ByteArray)(hR:TRep w (·<B) t v)(hB:B<=w.heap.size):
  Calls Tryz.prog 63 #[v,.string s] w fun e w'=>e=.returned (.int .i64 (aA9 (fun i=>(fth t.fields i).name.toList==s.toList) t.fields.length))∧Below w.heap.size w w':=by
 obtain⟨name,key,fields⟩:=t;obtain⟨ta,tc,rfl,hK,hnc,hn,ho⟩:=hR;simp only at hK hnc hn ho ⊢;have h3:=hK.1;obtain⟨-,C,hA,hr⟩:=hK;by_cases hn0:fields.length=0
 ·go_enter Tryz.func63,Tryz.ntmps63
  go_wp2_with fail
  go_loop [5] (fun i=>i=.int .i64 0) (fun _=>0)
  case atStart=>rfl
  case round=>
   subst hrel;go_wp2_with fail
   go_ret
   exact⟨aBZ (by first| rfl| (rw[hn0];rfl)),aA2 _ _⟩
 ·obtain⟨b,off,rfl,hbB,hc⟩:=hA (by omega)
  have hcell:∀k,k<fields.length->∀o,(w.alloc o).cell? ⟨b,off+k*8,none⟩=some (.string (fth fields k).name):=fun k hk o=>by
   have h1:=hc k hk 0 (by omega)
   have h2:C k 0=.string (fth fields k).name:=by
    obtain⟨x,y,hv,-⟩:=hr k hk;simp only[Value.agg.injEq,Array.mk.injEq,List.cons.injEq] at hv;exact hv.1
   rw[h2] at h1;exact((aA2 w o).cell (p:=⟨b,off+k*8,none⟩) (by show b<_;omega)).trans h1
  clear hc;go_enter Tryz.func63,Tryz.ntmps63
  go_wp2_with fail
  go_loop [5] (fun i=>∃k:Nat,k<=fields.length∧i=.int .i64 k∧∀j,j<k->((fth fields j).name.toList==s.toList)=false) (fun i=>fields.length- (intOf i).toNat)
  case atStart=>exact⟨0,Nat.zero_le _,rfl,fun j hj=>by omega⟩
  case round=>
   obtain⟨k,hk,rfl,hp⟩:=hrel;have HP:Hid (∀j,j<k->((fth fields j).name.toList==s.toList)=false):=hp;clear hp;by_cases hlt:k<fields.length
   ·have hck:=hcell k hlt;clear hcell;cases he:((fth fields k).name.toList==s.toList)
    ·go_wp2_with fail
     go_round
     case rel=>exact⟨k+1,by omega,by go_num,fun j hj=>by by_cases e:j=k;(subst e;exact he);exact HP.out j (by omega)⟩
     case measure=>simp[intOf];omega
    ·go_wp2_with fail
     go_ret
     exact⟨aBZ (aAX HP.out he hlt).symm,aA2 _ _⟩
   ·go_wp2_with fail
    go_ret
    have e:k=fields.length:=by omega
    exact⟨aBZ (aB3 (e▸HP.out)).symm,aA2 _ _⟩
set_option maxHeartbeats 800000 in
theorem aQI(f:F)(w:World)(B:Nat)(v:Value)(hR:FRep w (·<B) f v)(hB:B<=w.heap.size):
  Calls Tryz.prog 142 #[v] w fun e w'=>∃(na:Option Addr) (nc:Nat),e=.returned (.agg #[.string f.name,.string f.of,.bool f.list,.bool f.must,.bool f.far,.bool f.hidden,.bool f.shared,.slice na f.needs.length nc])∧Below w.heap.size w w'∧
   FRep w' (fun b=>w.heap.size<=b∧b<w'.heap.size) f (.agg #[.string f.name,.string f.of,.bool f.list,.bool f.must,.bool f.far,.bool f.hidden,.bool f.shared,.slice na f.needs.length nc])∧NF w.heap.size w':=by
 obtain⟨na,nc,rfl,hs,hnc,hn,ho,hbs⟩:=hR;obtain⟨name,of,l,m,fa,hi,sh,needs⟩:=f;simp only at hs hnc hn ho hbs;have hb3:∀o1 o2 o3,Below w.heap.size w (((w.alloc o1).alloc o2).alloc o3):=fun o1 o2 o3=>(((Below.refl _ _).alloc (Nat.le_refl _) _).alloc (by simp) _).alloc (by simp;omega) _
 go_enter Tryz.func142,Tryz.ntmps142
 go_wp2_with (
   go_at_call 169
   refine(aMD needs na nc _ ((hs.under ((hb3 _ _ _).mono hB)).sub fun k hk=>by simp;omega) hbs).mono ?_
   rintro e w1 ⟨rfl,hb1,hsz1,hst1,hnf1⟩;have HN1:Hid (NF w.heap.size w1):=NF.call (NF.three w _ _ _ _ _ _) hb1 hnf1;clear hnf1;obtain⟨c1,f1⟩:=aUJ hb1;simp at hsz1;have hlt1:w.heap.size+1+1<w1.heap.size:=by omega)
 have hbw:Below w.heap.size w w1:=(hb3 _ _ _).trans (hb1.mono (by simp;omega))
 have fin:=aUK (w:=w) (w1:=w1) (f:=⟨name,of,l,m,fa,hi,sh,needs⟩) (x:=.slice (some ⟨w.heap.size+1+1+1,0,none⟩) needs.length needs.length) (N:=w.heap.size) rfl hbw hsz1 (by simpa using hst1) hn ho hbs [.string name,.string of,.bool l,.bool m,.bool fa,.bool hi,.bool sh,.slice (some ⟨w.heap.size+1+1+1,0,none⟩) needs.length needs.length]
 refine bodyPost_ret (v:=.agg #[.string name,.string of,.bool l,.bool m,.bool fa,.bool hi,.bool sh,.slice (some ⟨w.heap.size+1+1+1,0,none⟩) needs.length needs.length]) ?res rfl ⟨_,_,rfl,fin.1,fin.2,fun a ha=>by simp only[World.frozen?_setCell];exact HN1.out a ha⟩
 case res=>
  have hr0:∀o1 o3 c,((((w.alloc o1).alloc (.cells c 80)).alloc o3)).rowIs (w.heap.size+1) 80 c.size (fun i=>c[i]?.getD undef):=fun o1 o3 c=>by
   have h:=((w.alloc o1).rowIs_alloc c 80 (fun i=>c[i]?.getD undef) (fun i hi=>by simp[hi])).alloc o3
   simpa using h
  have hr1:=(hr0 _ _ _).of_block (hb1.block (w.heap.size+1) (by simp))
  have p0:=hr1.cell (i:=0) (by simp)
  have p1:=hr1.cell (i:=1) (by simp)
  have p2:=hr1.cell (i:=2) (by simp)
  have p3:=hr1.cell (i:=3) (by simp)
  have p4:=hr1.cell (i:=4) (by simp)
  have p5:=hr1.cell (i:=5) (by simp)
  have p6:=hr1.cell (i:=6) (by simp)
  have p7:=hr1.cell (i:=7) (by simp)
  clear fin hst1 hs c1 f1 hb1 hr0 hr1;simp[results,Tryz.results142,go_sem,p0,p1,p2,p3,p4,p5,p6,p7]
set_option maxHeartbeats 800000 in
theorem aO0(xs:List F)(w:World)(B:Nat)(a:Option Addr)(c:Nat)(hK:aBJ w (·<B) xs a)(hB:B<=w.heap.size):
  Calls Tryz.prog 108 #[.slice a xs.length c] w fun e w'=>e=.returned (.slice (some ⟨w.heap.size,0,none⟩) xs.length xs.length)∧Below w.heap.size w w'∧w.heap.size<w'.heap.size∧
   aBJ w' (fun b=>w.heap.size<=b∧b<w'.heap.size) xs (some ⟨w.heap.size,0,none⟩)∧NF w.heap.size w':=by
 have h3:=hK.1;obtain⟨-,C,hA,hr⟩:=hK;have hmk:=aF6 (P:=Tryz.prog) 94 80 (.agg #[.string ByteArray.empty,.string ByteArray.empty,.bool false,.bool false,.bool false,.bool false,.bool false,.slice none 0 0]) #[.string ByteArray.empty,.string ByteArray.empty,.bool false,.bool false,.bool false,.bool false,.bool false,.slice none 0 0] rfl 8 64 Tryz.underlying94 aQC .i64 .i64 xs.length h3 (by omega)
 go_enter Tryz.func108,Tryz.ntmps108
 go_wp2_with fail
 go_loopw [4] (fun i wr=>∃(k:Nat) (G:Nat->Value),k<=xs.length∧i=.int .i64 k∧Below w.heap.size w wr∧wr.rowIs w.heap.size 80 (xs.length*8) G∧
   (∀i,i<k->FRep wr (fun b=>w.heap.size<b∧b<wr.heap.size) (fth xs i) (.agg #[G (i*8),G (i*8+1),G (i*8+2),G (i*8+3),G (i*8+4),G (i*8+5),G (i*8+6),G (i*8+7)]))∧NF w.heap.size wr) (fun i _=>xs.length- (intOf i).toNat)
 case atStart=>
  obtain⟨G,hG⟩:=aL7 w #[.string ByteArray.empty,.string ByteArray.empty,.bool false,.bool false,.bool false,.bool false,.bool false,.slice none 0 0] (xs.length*8) 80;exact⟨0,G,Nat.zero_le _,rfl,aA2 _ _,hG,fun i hi=>by omega,(NF.new w).alloc _ _⟩
 case round=>
  obtain⟨k,G,hk,rfl,hbel,hrow,hreps,hnf⟩:=hrel;have HNF:Hid (NF w.heap.size wr):=hnf;clear hnf;by_cases hlt:k<xs.length
  ·obtain⟨b,off,rfl,hbB,hc⟩:=hA (by omega)
   have hck:∀j,j<8->wr.cell? ⟨b,off+k*8+j,none⟩=some (C k j):=fun j hj=>(hbel.cell (p:=⟨b,off+k*8+j,none⟩) (by show b<_;omega)).trans (hc k hlt j hj)
   have hc0:wr.cell? ⟨b,off+k*8,none⟩=some (C k 0):=hck 0 (by omega)
   have hc1:wr.cell? ⟨b,off+k*8+1,none⟩=some (C k 1):=hck 1 (by omega)
   have hc2:wr.cell? ⟨b,off+k*8+2,none⟩=some (C k 2):=hck 2 (by omega)
   have hc3:wr.cell? ⟨b,off+k*8+3,none⟩=some (C k 3):=hck 3 (by omega)
   have hc4:wr.cell? ⟨b,off+k*8+4,none⟩=some (C k 4):=hck 4 (by omega)
   have hc5:wr.cell? ⟨b,off+k*8+5,none⟩=some (C k 5):=hck 5 (by omega)
   have hc6:wr.cell? ⟨b,off+k*8+6,none⟩=some (C k 6):=hck 6 (by omega)
   have hc7:wr.cell? ⟨b,off+k*8+7,none⟩=some (C k 7):=hck 7 (by omega)
   clear hck hc;go_wp2_with (
    go_at_call 142
    refine(aQI (fth xs k) _ B _ ((hr k hlt).under (hbel.mono hB)) (by have:=hbel.size;omega)).mono ?_
    rintro e w1 ⟨na,nc,rfl,hby,hry,hnf1⟩;have HN1:Hid (NF w.heap.size w1):=NF.call HNF.out hby hnf1;clear hnf1;have hrow1:=hrow.of_block (hby.block _ hrow.lt);have q0:w1.cell? ⟨w.heap.size,k*8,none⟩=some (G (k*8)):=hrow1.cell (by omega)
    have q1:w1.cell? ⟨w.heap.size,k*8+1,none⟩=some (G (k*8+1)):=hrow1.cell (by omega)
    have q2:w1.cell? ⟨w.heap.size,k*8+2,none⟩=some (G (k*8+2)):=hrow1.cell (by omega)
    have q3:w1.cell? ⟨w.heap.size,k*8+3,none⟩=some (G (k*8+3)):=hrow1.cell (by omega)
    have q4:w1.cell? ⟨w.heap.size,k*8+4,none⟩=some (G (k*8+4)):=hrow1.cell (by omega)
    have q5:w1.cell? ⟨w.heap.size,k*8+5,none⟩=some (G (k*8+5)):=hrow1.cell (by omega)
    have q6:w1.cell? ⟨w.heap.size,k*8+6,none⟩=some (G (k*8+6)):=hrow1.cell (by omega)
    have q7:w1.cell? ⟨w.heap.size,k*8+7,none⟩=some (G (k*8+7)):=hrow1.cell (by omega)
    have z0:∀j,w1.frozen? ⟨w.heap.size,j,none⟩=false:=fun j=>hrow1.frozen j)
   go_roundw
   case rel=>
    obtain⟨G',hG,hG1,hGF⟩:=aFP [.string (fth xs k).name,.string (fth xs k).of,.bool (fth xs k).list,.bool (fth xs k).must,.bool (fth xs k).far,.bool (fth xs k).hidden,.bool (fth xs k).shared,.slice na (fth xs k).needs.length nc] (k*8) hrow1;have hs1:=hbel.size;have hs2:=hby.size;have hs3:=hrow.lt;have g0:G' (k*8)=.string (fth xs k).name:=hG1 0 (by simp)
    have g1:G' (k*8+1)=.string (fth xs k).of:=hG1 1 (by simp)
    have g2:G' (k*8+2)=.bool (fth xs k).list:=hG1 2 (by simp)
    have g3:G' (k*8+3)=.bool (fth xs k).must:=hG1 3 (by simp)
    have g4:G' (k*8+4)=.bool (fth xs k).far:=hG1 4 (by simp)
    have g5:G' (k*8+5)=.bool (fth xs k).hidden:=hG1 5 (by simp)
    have g6:G' (k*8+6)=.bool (fth xs k).shared:=hG1 6 (by simp)
    have g7:G' (k*8+7)=.slice na (fth xs k).needs.length nc:=hG1 7 (by simp)
    have hpb:=aC6 w.heap.size;have hps:=aCC w.heap.size [.string (fth xs k).name,.string (fth xs k).of,.bool (fth xs k).list,.bool (fth xs k).must,.bool (fth xs k).far,.bool (fth xs k).hidden,.bool (fth xs k).shared,.slice na (fth xs k).needs.length nc] w1 (k*8);refine⟨k+1,G',by omega,by go_num,aC5 (Nat.le_refl _) [.string (fth xs k).name,.string (fth xs k).of,.bool (fth xs k).list,.bool (fth xs k).must,.bool (fth xs k).far,.bool (fth xs k).hidden,.bool (fth xs k).shared,.slice na (fth xs k).needs.length nc] w1 (k*8) (hbel.trans (hby.mono hs1)),hG,fun i hi=>?_,fun a ha=>by simp only[World.frozen?_setCell];exact HN1.out a ha⟩
    by_cases e1:i=k
    ·rw[e1,g0,g1,g2,g3,g4,g5,g6,g7];refine(hry.mono fun b hb=>hpb b (by omega) [.string (fth xs k).name,.string (fth xs k).of,.bool (fth xs k).list,.bool (fth xs k).must,.bool (fth xs k).far,.bool (fth xs k).hidden,.bool (fth xs k).shared,.slice na (fth xs k).needs.length nc] w1 _).sub fun b hb=>⟨by omega,?_⟩
     show b<(puts w1 w.heap.size (k*8) [.string (fth xs k).name,.string (fth xs k).of,.bool (fth xs k).list,.bool (fth xs k).must,.bool (fth xs k).far,.bool (fth xs k).hidden,.bool (fth xs k).shared,.slice na (fth xs k).needs.length nc]).heap.size;omega
    ·rw[hGF _ (by omega),hGF _ (by omega),hGF _ (by omega),hGF _ (by omega),hGF _ (by omega),hGF _ (by omega),hGF _ (by omega),hGF _ (by omega)]
     refine((hreps i (by omega)).mono fun b hb=>(hpb b (by omega) [.string (fth xs k).name,.string (fth xs k).of,.bool (fth xs k).list,.bool (fth xs k).must,.bool (fth xs k).far,.bool (fth xs k).hidden,.bool (fth xs k).shared,.slice na (fth xs k).needs.length nc] w1 _).trans (hby.block b hb.2)).sub fun b hb=>⟨hb.1,?_⟩
     show b<(puts w1 w.heap.size (k*8) [.string (fth xs k).name,.string (fth xs k).of,.bool (fth xs k).list,.bool (fth xs k).must,.bool (fth xs k).far,.bool (fth xs k).hidden,.bool (fth xs k).shared,.slice na (fth xs k).needs.length nc]).heap.size;omega
   case measure=>simp[intOf];omega
  ·go_wp2_with fail
   go_ret
   have e:k=xs.length:=by omega
   subst e;refine⟨rfl,hbel,hrow.lt,⟨h3,fun i j=>G (i*8+j),fun _=>⟨_,_,rfl,⟨Nat.le_refl _,hrow.lt⟩,fun i hi j hj=>?_⟩,fun i hi=>(hreps i hi).sub fun b hb=>⟨by omega,hb.2⟩⟩,HNF.out⟩
   have:=hrow.cell (i:=i*8+j) (by omega)
   simpa using this
set_option maxHeartbeats 800000 in
theorem aR6(t:T)(w:World)(B:Nat)(v:Value)(hR:TRep w (·<B) t v)(hB:B<=w.heap.size):
  Calls Tryz.prog 78 #[v] w fun e w'=>∃(fa:Option Addr) (fc:Nat),e=.returned (.agg #[.string t.name,.string t.key,.slice fa t.fields.length fc])∧Below w.heap.size w w'∧
   TRep w' (fun b=>w.heap.size<=b∧b<w'.heap.size) t (.agg #[.string t.name,.string t.key,.slice fa t.fields.length fc])∧NF w.heap.size w':=by
 obtain⟨na,nc,rfl,hs,hnc,hn,ho⟩:=hR;obtain⟨name,key,fields⟩:=t;simp only at hs hnc hn ho;have hb3:∀o1 o2 o3,Below w.heap.size w (((w.alloc o1).alloc o2).alloc o3):=fun o1 o2 o3=>(((Below.refl _ _).alloc (Nat.le_refl _) _).alloc (by simp) _).alloc (by simp;omega) _
 go_enter Tryz.func78,Tryz.ntmps78
 go_wp2_with (
   go_at_call 108
   refine(aO0 fields _ B na nc (hs.under ((hb3 _ _ _).mono hB)) (by simp;omega)).mono ?_
   rintro e w1 ⟨rfl,hb1,hsz1,hst1,hnf1⟩;have HN1:Hid (NF w.heap.size w1):=NF.call (NF.three w _ _ _ _ _ _) hb1 hnf1;clear hnf1;obtain⟨c1,f1⟩:=aUJ hb1;simp at hsz1;have hlt1:w.heap.size+1+1<w1.heap.size:=by omega)
 have hbw:Below w.heap.size w w1:=(hb3 _ _ _).trans (hb1.mono (by simp;omega))
 have fin:=aUH (w:=w) (w1:=w1) (t:=⟨name,key,fields⟩) (x:=.slice (some ⟨w.heap.size+1+1+1,0,none⟩) fields.length fields.length) (N:=w.heap.size) rfl hbw hsz1 (by simpa using hst1) hn ho [.string name,.string key,.slice (some ⟨w.heap.size+1+1+1,0,none⟩) fields.length fields.length]
 refine bodyPost_ret (v:=.agg #[.string name,.string key,.slice (some ⟨w.heap.size+1+1+1,0,none⟩) fields.length fields.length]) ?res rfl ⟨_,_,rfl,fin.1,fin.2,fun a ha=>by simp only[World.frozen?_setCell];exact HN1.out a ha⟩
 case res=>
  have hr0:∀o1 o3 c,((((w.alloc o1).alloc (.cells c 96)).alloc o3)).rowIs (w.heap.size+1) 96 c.size (fun i=>c[i]?.getD undef):=fun o1 o3 c=>by
   have h:=((w.alloc o1).rowIs_alloc c 96 (fun i=>c[i]?.getD undef) (fun i hi=>by simp[hi])).alloc o3
   simpa using h
  have hr1:=(hr0 _ _ _).of_block (hb1.block (w.heap.size+1) (by simp))
  have p0:=hr1.cell (i:=0) (by simp)
  have p1:=hr1.cell (i:=1) (by simp)
  have p2:=hr1.cell (i:=2) (by simp)
  clear fin hst1 hs c1 f1 hb1 hr0 hr1;simp[results,Tryz.results78,go_sem,p0,p1,p2]
set_option maxHeartbeats 800000 in
theorem aQ6(xs:List T)(w:World)(B:Nat)(a:Option Addr)(c:Nat)(hK:aDA w (·<B) xs a)(hB:B<=w.heap.size):
  Calls Tryz.prog 52 #[.slice a xs.length c] w fun e w'=>e=.returned (.slice (some ⟨w.heap.size,0,none⟩) xs.length xs.length)∧Below w.heap.size w w'∧w.heap.size<w'.heap.size∧
   aDA w' (fun b=>w.heap.size<=b∧b<w'.heap.size) xs (some ⟨w.heap.size,0,none⟩)∧NF w.heap.size w':=by
 have h3:=hK.1;obtain⟨-,C,hA,hr⟩:=hK;have hmk:=aF6 (P:=Tryz.prog) 44 96 (.agg #[.string ByteArray.empty,.string ByteArray.empty,.slice none 0 0]) #[.string ByteArray.empty,.string ByteArray.empty,.slice none 0 0] rfl 3 56 Tryz.underlying44 aS9 .i64 .i64 xs.length h3 (by omega)
 go_enter Tryz.func52,Tryz.ntmps52
 go_wp2_with fail
 go_loopw [4] (fun i wr=>∃(k:Nat) (G:Nat->Value),k<=xs.length∧i=.int .i64 k∧Below w.heap.size w wr∧wr.rowIs w.heap.size 96 (xs.length*3) G∧
   (∀i,i<k->TRep wr (fun b=>w.heap.size<b∧b<wr.heap.size) (tth xs i) (.agg #[G (i*3),G (i*3+1),G (i*3+2)]))∧NF w.heap.size wr) (fun i _=>xs.length- (intOf i).toNat)
 case atStart=>
  obtain⟨G,hG⟩:=aL7 w #[.string ByteArray.empty,.string ByteArray.empty,.slice none 0 0] (xs.length*3) 96;exact⟨0,G,Nat.zero_le _,rfl,aA2 _ _,hG,fun i hi=>by omega,(NF.new w).alloc _ _⟩
 case round=>
  obtain⟨k,G,hk,rfl,hbel,hrow,hreps,hnf⟩:=hrel;have HNF:Hid (NF w.heap.size wr):=hnf;clear hnf;by_cases hlt:k<xs.length
  ·obtain⟨b,off,rfl,hbB,hc⟩:=hA (by omega)
   have hck:∀j,j<3->wr.cell? ⟨b,off+k*3+j,none⟩=some (C k j):=fun j hj=>(hbel.cell (p:=⟨b,off+k*3+j,none⟩) (by show b<_;omega)).trans (hc k hlt j hj)
   have hc0:wr.cell? ⟨b,off+k*3,none⟩=some (C k 0):=hck 0 (by omega)
   have hc1:wr.cell? ⟨b,off+k*3+1,none⟩=some (C k 1):=hck 1 (by omega)
   have hc2:wr.cell? ⟨b,off+k*3+2,none⟩=some (C k 2):=hck 2 (by omega)
   clear hck hc;go_wp2_with (
    go_at_call 78
    refine(aR6 (tth xs k) _ B _ ((hr k hlt).under (hbel.mono hB)) (by have:=hbel.size;omega)).mono ?_
    rintro e w1 ⟨na,nc,rfl,hby,hry,hnf1⟩;have HN1:Hid (NF w.heap.size w1):=NF.call HNF.out hby hnf1;clear hnf1;have hrow1:=hrow.of_block (hby.block _ hrow.lt);have q0:w1.cell? ⟨w.heap.size,k*3,none⟩=some (G (k*3)):=hrow1.cell (by omega)
    have q1:w1.cell? ⟨w.heap.size,k*3+1,none⟩=some (G (k*3+1)):=hrow1.cell (by omega)
    have q2:w1.cell? ⟨w.heap.size,k*3+2,none⟩=some (G (k*3+2)):=hrow1.cell (by omega)
    have z0:∀j,w1.frozen? ⟨w.heap.size,j,none⟩=false:=fun j=>hrow1.frozen j)
   go_roundw
   case rel=>
    obtain⟨G',hG,hG1,hGF⟩:=aFP [.string (tth xs k).name,.string (tth xs k).key,.slice na (tth xs k).fields.length nc] (k*3) hrow1;have hs1:=hbel.size;have hs2:=hby.size;have hs3:=hrow.lt;have g0:G' (k*3)=.string (tth xs k).name:=hG1 0 (by simp)
    have g1:G' (k*3+1)=.string (tth xs k).key:=hG1 1 (by simp)
    have g2:G' (k*3+2)=.slice na (tth xs k).fields.length nc:=hG1 2 (by simp)
    have hpb:=aC6 w.heap.size;have hps:=aCC w.heap.size [.string (tth xs k).name,.string (tth xs k).key,.slice na (tth xs k).fields.length nc] w1 (k*3);refine⟨k+1,G',by omega,by go_num,aC5 (Nat.le_refl _) [.string (tth xs k).name,.string (tth xs k).key,.slice na (tth xs k).fields.length nc] w1 (k*3) (hbel.trans (hby.mono hs1)),hG,fun i hi=>?_,fun a ha=>by simp only[World.frozen?_setCell];exact HN1.out a ha⟩
    by_cases e1:i=k
    ·rw[e1,g0,g1,g2];refine(hry.mono fun b hb=>hpb b (by omega) [.string (tth xs k).name,.string (tth xs k).key,.slice na (tth xs k).fields.length nc] w1 _).sub fun b hb=>⟨by omega,?_⟩
     show b<(puts w1 w.heap.size (k*3) [.string (tth xs k).name,.string (tth xs k).key,.slice na (tth xs k).fields.length nc]).heap.size;omega
    ·rw[hGF _ (by omega),hGF _ (by omega),hGF _ (by omega)]
     refine((hreps i (by omega)).mono fun b hb=>(hpb b (by omega) [.string (tth xs k).name,.string (tth xs k).key,.slice na (tth xs k).fields.length nc] w1 _).trans (hby.block b hb.2)).sub fun b hb=>⟨hb.1,?_⟩
     show b<(puts w1 w.heap.size (k*3) [.string (tth xs k).name,.string (tth xs k).key,.slice na (tth xs k).fields.length nc]).heap.size;omega
   case measure=>simp[intOf];omega
  ·go_wp2_with fail
   go_ret
   have e:k=xs.length:=by omega
   subst e;refine⟨rfl,hbel,hrow.lt,⟨h3,fun i j=>G (i*3+j),fun _=>⟨_,_,rfl,⟨Nat.le_refl _,hrow.lt⟩,fun i hi j hj=>?_⟩,fun i hi=>(hreps i hi).sub fun b hb=>⟨by omega,hb.2⟩⟩,HNF.out⟩
   have:=hrow.cell (i:=i*3+j) (by omega)
   simpa using this
set_option maxHeartbeats 800000 in
theorem aSB(p:Pt)(w:World)(B:Nat)(v:Value)(hR:PRep w (·<B) p v)(hB:B<=w.heap.size):
  Calls Tryz.prog 28 #[v] w fun e w'=>∃(ta:Option Addr) (tc:Nat),e=.returned (.agg #[.string p.name,.slice ta p.types.length tc])∧Below w.heap.size w w'∧
   PRep w' (fun b=>w.heap.size<=b∧b<w'.heap.size) p (.agg #[.string p.name,.slice ta p.types.length tc])∧NF w.heap.size w':=by
 obtain⟨na,nc,rfl,hs,hnc,hn⟩:=hR;obtain⟨name,types⟩:=p;simp only at hs hnc hn;have hb3:∀o1 o2 o3,Below w.heap.size w (((w.alloc o1).alloc o2).alloc o3):=fun o1 o2 o3=>(((Below.refl _ _).alloc (Nat.le_refl _) _).alloc (by simp) _).alloc (by simp;omega) _
 go_enter Tryz.func28,Tryz.ntmps28
 go_wp2_with (
   go_at_call 52
   refine(aQ6 types _ B na nc (hs.under ((hb3 _ _ _).mono hB)) (by simp;omega)).mono ?_
   rintro e w1 ⟨rfl,hb1,hsz1,hst1,hnf1⟩;have HN1:Hid (NF w.heap.size w1):=NF.call (NF.three w _ _ _ _ _ _) hb1 hnf1;clear hnf1;obtain⟨c1,f1⟩:=aUJ hb1;simp at hsz1;have hlt1:w.heap.size+1+1<w1.heap.size:=by omega)
 have hbw:Below w.heap.size w w1:=(hb3 _ _ _).trans (hb1.mono (by simp;omega))
 have fin:=aU5 (w:=w) (w1:=w1) (p:=⟨name,types⟩) (x:=.slice (some ⟨w.heap.size+1+1+1,0,none⟩) types.length types.length) (N:=w.heap.size) rfl hbw hsz1 (by simpa using hst1) hn [.string name,.slice (some ⟨w.heap.size+1+1+1,0,none⟩) types.length types.length]
 refine bodyPost_ret (v:=.agg #[.string name,.slice (some ⟨w.heap.size+1+1+1,0,none⟩) types.length types.length]) ?res rfl ⟨_,_,rfl,fin.1,fin.2,fun a ha=>by simp only[World.frozen?_setCell];exact HN1.out a ha⟩
 case res=>
  have hr0:∀o1 o3 c,((((w.alloc o1).alloc (.cells c 46)).alloc o3)).rowIs (w.heap.size+1) 46 c.size (fun i=>c[i]?.getD undef):=fun o1 o3 c=>by
   have h:=((w.alloc o1).rowIs_alloc c 46 (fun i=>c[i]?.getD undef) (fun i hi=>by simp[hi])).alloc o3
   simpa using h
  have hr1:=(hr0 _ _ _).of_block (hb1.block (w.heap.size+1) (by simp))
  have p0:=hr1.cell (i:=0) (by simp)
  have p1:=hr1.cell (i:=1) (by simp)
  clear fin hst1 hs c1 f1 hb1 hr0 hr1;simp[results,Tryz.results28,go_sem,p0,p1]
def ith(ns:List Int)(i:Nat):Int:=ns.getD i 0
def Ints(w:World)(P:Nat->Prop)(ns:List Int)(a:Option Addr):Prop:=
 8*ns.length<=281474976710656∧(0<ns.length->∃b off,a=some ⟨b,off,none⟩∧P b∧∀i,i<ns.length->w.cell? ⟨b,off+i,none⟩=some (.int .i64 (ith ns i)))
theorem Ints.mono{w w':World}{P:Nat->Prop}{ns:List Int}{a:Option Addr}(h:Ints w P ns a)(e:∀k,P k->w'.heap[k]?=w.heap[k]?):Ints w' P ns a:=by
 refine⟨h.1,fun hn=>?_⟩;obtain⟨b,off,ha,hP,hc⟩:=h.2 hn;exact⟨b,off,ha,hP,fun i hi=>(World.cell?_of_block (w:=w) (a:=⟨b,off+i,none⟩) (e b hP)).trans (hc i hi)⟩
theorem Ints.sub{w:World}{P Q:Nat->Prop}{ns:List Int}{a:Option Addr}(h:Ints w P ns a)(e:∀k,P k->Q k):Ints w Q ns a:=by
 refine⟨h.1,fun hn=>?_⟩;obtain⟨b,off,ha,hP,hc⟩:=h.2 hn;exact⟨b,off,ha,e _ hP,hc⟩
theorem Ints.nil(w:World)(P:Nat->Prop)(a:Option Addr):Ints w P [] a:=⟨by simp,fun h=>by simp at h⟩
theorem aVR:(Tryz.prog.info? 3).map (fun i=>(i.zero,i.size,i.bytes))=some (some (.int .i64 0),1,8):=by kernel_rfl
structure O where
 type:ByteArray
 field:ByteArray
 parts:List Int
def O.zero:O:=⟨ByteArray.empty,ByteArray.empty,[]⟩
def oth(ts:List O)(i:Nat):O:=ts.getD i O.zero
def ORep(w:World)(P:Nat->Prop)(t:O)(v:Value):Prop:=∃(fa:Option Addr) (fc:Nat),
 v=.agg #[.string t.type,.string t.field,.slice fa t.parts.length fc]∧Ints w P t.parts fa∧t.parts.length<=fc∧t.type.size<=maxLen∧t.field.size<=maxLen
def aHP(w:World)(P:Nat->Prop)(ts:List O)(a:Option Addr):Prop:=56*ts.length<=281474976710656∧∃C:Nat->Nat->Value,Arr w P 3 ts.length a C∧∀i,i<ts.length->ORep w P (oth ts i) (.agg #[C i 0,C i 1,C i 2])
theorem ORep.mono{w w':World}{P:Nat->Prop}{t:O}{v:Value}(h:ORep w P t v)(e:∀k,P k->w'.heap[k]?=w.heap[k]?):ORep w' P t v:=by
 obtain⟨fa,fc,h1,h2,h3⟩:=h;exact⟨fa,fc,h1,h2.mono e,h3⟩
theorem ORep.sub{w:World}{P Q:Nat->Prop}{t:O}{v:Value}(h:ORep w P t v)(e:∀k,P k->Q k):ORep w Q t v:=by
 obtain⟨fa,fc,h1,h2,h3⟩:=h;exact⟨fa,fc,h1,h2.sub e,h3⟩
theorem aHP.mono{w w':World}{P:Nat->Prop}{f:List O}{v:Option Addr}(h:aHP w P f v)(e:∀k,P k->w'.heap[k]?=w.heap[k]?):aHP w' P f v:=by
 obtain⟨h0,C,h1,h2⟩:=h;exact⟨h0,C,h1.mono e,fun i hi=>(h2 i hi).mono e⟩
theorem aHP.sub{w:World}{P Q:Nat->Prop}{f:List O}{v:Option Addr}(h:aHP w P f v)(e:∀k,P k->Q k):aHP w Q f v:=by
 obtain⟨h0,C,h1,h2⟩:=h;exact⟨h0,C,h1.sub e,fun i hi=>(h2 i hi).sub e⟩
structure Ch where
 all:Pt
 owners:List O
def CRep(w:World)(P:Nat->Prop)(c:Ch)(v:Value):Prop:=∃(ta oa:Option Addr) (tc oc:Nat),
 v=.agg #[.string c.all.name,.slice ta c.all.types.length tc,.slice oa c.owners.length oc]∧PRep w P c.all (.agg #[.string c.all.name,.slice ta c.all.types.length tc])∧aHP w P c.owners oa∧c.owners.length<=oc
theorem aO3{B:Nat}{a w w':World}(h:Below B a w)(hg:w.grownBy w' none)(hB:B<=w.heap.size):Below B a w':=
 h.trans ⟨hg.os,hg.tape,hg.output,hg.size,fun k hk=>hg.block k (by omega) (by simp)⟩
theorem aS8(ns:List ByteArray)(j:Nat)(u:Value)(h:(ns.map Value.string)[j]?=some u):j<ns.length∧u=.string (nth ns j):=by
 rw[List.getElem?_map] at h;obtain⟨b,hb,rfl⟩:=Option.map_eq_some_iff.1 h;obtain⟨hj,rfl⟩:=List.getElem?_eq_some_iff.1 hb;exact⟨hj,by simp[nth,List.getD_eq_getElem?_getD,hj]⟩
theorem aN2{w:World}{g:Nat}{cur:Array Value}{e:TypeId}(h:w.heap[g]?=some (.cells cur e (0,0)))(o:Nat):w.frozen? ⟨g,o,none⟩=false:=by simp[World.frozen?,h]
theorem aGD{w:World}{base:Nat}{ns:List ByteArray}{g cap:Nat}(h:w.ownsRow base 9 1 (.slice (some ⟨g,0,none⟩) ns.length cap) ns.length (ns.map Value.string))(h2:∀i,(nth ns i).size<=maxLen)(h3:ns.length<=maxLen)(hlt:g<w.heap.size):
  Strs w (fun b=>base<=b∧b<w.heap.size) ns (some ⟨g,0,none⟩)∧ns.length<=cap∧aNO w base w.heap.size ns.length (some ⟨g,0,none⟩):=by
 have hb:base<=g∧ns.length<=cap∧∀o,w.frozen? ⟨g,o,none⟩=false:=by
  rcases h.2 with⟨h',_⟩| ⟨g',cap',cur,h',hb,hh,hn,_⟩
  ·simp at h'
  ·simp only[Value.slice.injEq,Option.some.injEq,Addr.mk.injEq,and_true,true_and] at h';obtain⟨rfl,rfl⟩:=h';exact⟨hb,hn,aN2 hh⟩
 have hc:∀i,i<ns.length->w.cell? ⟨g,0+i,none⟩=some (.string (nth ns i)):=fun i hi=>by
  have:=h.cellAt i (by omega)
  rw[Nat.zero_add,this,List.getElem?_map];simp[nth,List.getD_eq_getElem?_getD,hi]
 exact⟨⟨fun _=>⟨g,0,rfl,⟨hb.1,hlt⟩,hc⟩,h2,h3⟩,hb.2.1,fun _=>⟨g,0,rfl,hb.1,hlt,fun i hi=>⟨⟨_,hc i hi⟩,hb.2.2 _⟩⟩⟩
set_option maxHeartbeats 400000 in
theorem aK5(ns:List ByteArray)(a:Option Addr)(c:Nat)(w:World)(P:Nat->Prop)(hS:Strs w P ns a)(hb:16*ns.length<=140737488355328):
  Calls Tryz.prog 57 #[.slice a ns.length c] w fun e w'=>∃(a':Option Addr) (c':Nat),e=.returned (.slice a' ns.length c')∧ns.length<=c'∧Below w.heap.size w w'∧Strs w' (fun b=>w.heap.size<=b∧b<w'.heap.size) ns a'∧aNO w' w.heap.size w'.heap.size ns.length a':=by
 obtain⟨h1,h2,h3⟩:=hS;obtain⟨i0,hi,hz0,hz1,hz2⟩:=info_parts aMV;by_cases hn0:ns.length=0
 ·have hns:ns=[]:=by simpa using hn0
  subst hns;cases a with
  |none=>
   go_enter Tryz.func57,Tryz.ntmps57
   go_wp2_with fail
   go_ret
   exact⟨none,0,rfl,by simp,Below.refl _ _,⟨fun h=>absurd rfl h,h2,h3⟩,fun h=>by simp at h⟩
  |some ad=>
   go_enter Tryz.func57,Tryz.ntmps57
   go_wp2_with fail
   go_ret
   exact⟨none,0,rfl,by simp,Below.refl _ _,⟨fun h=>absurd rfl h,h2,h3⟩,fun h=>by simp at h⟩
 ·obtain⟨b,off,rfl,_,hc⟩:=h1 (by intro e;simp[e] at hn0)
  clear h1;go_enter Tryz.func57,Tryz.ntmps57
  go_wp2_with (at_builtin;refine wpList_append_lies _ rfl _ _ 33 rfl w.heap.size 9 i0 (.string ByteArray.empty) 1 16 Tryz.underlying33 hi hz0 hz1 hz2 rfl (by decide) (.slice none 0 0) 0 [] rfl (World.ownsRow_nil _ _ _ _) ⟨b,off,none⟩ ns.length c (ns.map Value.string) rfl (by simp) ?c1 ?c2 (by omega) ?c3 (by omega) (Nat.le_refl _) _ rfl ?_)
  case c1=>
   intro j u hj;obtain⟨hj',rfl⟩:=aS8 ns j u hj;rw[Addr.add_lit];exact hc j hj'
  case c2=>intro u hu;simp at hu;obtain⟨x,-,rfl⟩:=hu;rfl
  case c3=>omega
  intro g cap w1 hown hgrow hat hlt;go_wp2_with fail
  go_ret
  have hS:=aGD (base:=w.heap.size) (by simpa using hown) h2 h3 hlt
  exact⟨_,cap,by simp,hS.2.1,aO3 (Below.refl _ _) hgrow (Nat.le_refl _),hS.1,hS.2.2⟩
end Go.Proofs.YtcebpkeiaiiphaaGreatDoor
