import Derived.Test.YtokmgbidmnanpaaGreatDoorQ16
import Derived.Test.YtokmgbidmnanpaaGreatDoorQ1
import Derived.Test.YtokmgbidmnanpaaGreatDoorQ6
import Derived.Test.YtokmgbidmnanpaaGreatDoorQ4
import Derived.Laws.IdiomStrings
import Derived.Deep.RegionWith
import Derived.Test.YtokmgbidmnanpaaGreatDoorQ12
import Derived.Test.YtokmgbidmnanpaaGreatDoorQ3
set_option linter.unusedSimpArgs false
set_option linter.unusedVariables false
namespace Go.Proofs.YtokmgbidmnanpaaGreatDoor
open Go.RowKit
theorem aC6.at{w:World}{B:Nat}{fs:List F}{fa:Option Addr}(h:aC6 w (·<B) fs fa)(hB:B≤w.heap.size)(k:Nat)(hk:k<fs.length):∃(b off:Nat) (na:Option Addr) (nc:Nat),fa=some ⟨b,off,none⟩∧
  FRep w (·<B) (fth fs k) (.agg #[.string (fth fs k).name,.string (fth fs k).of,.bool (fth fs k).list,.bool (fth fs k).must,.bool (fth fs k).far,.bool (fth fs k).hidden,.bool (fth fs k).shared,.slice na (fth fs k).needs.length nc])∧
  ∀W,Below w.heap.size w W→W.cell? ⟨b,off+k*8,none⟩=some (.string (fth fs k).name)∧W.cell? ⟨b,off+k*8+1,none⟩=some (.string (fth fs k).of)∧W.cell? ⟨b,off+k*8+2,none⟩=some (.bool (fth fs k).list)∧W.cell? ⟨b,off+k*8+3,none⟩=some (.bool (fth fs k).must)∧W.cell? ⟨b,off+k*8+4,none⟩=some (.bool (fth fs k).far)∧W.cell? ⟨b,off+k*8+5,none⟩=some (.bool (fth fs k).hidden)∧W.cell? ⟨b,off+k*8+6,none⟩=some (.bool (fth fs k).shared)∧W.cell? ⟨b,off+k*8+7,none⟩=some (.slice na (fth fs k).needs.length nc):=by
 obtain⟨-,C,hA,hr⟩:=h
 obtain⟨b,off,rfl,hbB,hc⟩:=hA (by omega)
 have hkt:=hr k hk
 obtain⟨e0,e1,e2,e3,e4,e5,e6,na,nc,e7,-⟩:=(hr k hk).parts
 rw[e0,e1,e2,e3,e4,e5,e6,e7] at hkt
 refine⟨b,off,na,nc,rfl,hkt,fun W hb=>?_⟩
 have hck:∀j,j<8→W.cell? ⟨b,off+k*8+j,none⟩=some (C k j):=fun j hj=>(hb.cell (p:=⟨b,off+k*8+j,none⟩) (by show b<_;omega)).trans (hc k hk j hj)
 have c0:W.cell? ⟨b,off+k*8,none⟩=some (C k 0):=hck 0 (by omega)
 rw[c0,hck 1 (by omega),hck 2 (by omega),hck 3 (by omega),hck 4 (by omega),hck 5 (by omega),hck 6 (by omega),hck 7 (by omega),e0,e1,e2,e3,e4,e5,e6,e7]
 exact⟨rfl,rfl,rfl,rfl,rfl,rfl,rfl,rfl⟩
def aCV(ns:List ByteArray)(n:Nat):Bool:=(List.range n).all fun i=>aAO (nth ns i)
theorem aHY(ns:List ByteArray)(n:Nat):aCV ns (n+1)=(aCV ns n&&aAO (nth ns n)):=by simp[aCV,List.range_succ]
def aBR(f:F):Bool:=aAO f.name&&(aAF f.of||aAO f.of)&&aCV f.needs f.needs.length
set_option maxHeartbeats 800000 in
theorem aGR(f:F)(w:World)(B:Nat)(v:Value)(hR:FRep w (·<B) f v)(hB:B≤w.heap.size):
  Calls Tryz.prog 157 #[v] w fun e w'=>e=.returned (.bool (aBR f))∧Below w.heap.size w w':=by
 obtain⟨fn,of,l,m,fr,hi,sh,needs⟩:=f
 obtain⟨na,nc,rfl,hS,hnc,hsn,hso,hb16⟩:=hR
 simp only at hS hnc hsn hso hb16
 have hN1:=fun w=>aCM fn w hsn
 have hL:=fun w=>aFI of w
 have hN2:=fun w=>aCM of w hso
 have HF:Hid (aBR ⟨fn,of,l,m,fr,hi,sh,needs⟩=(aAO fn&&(aAF of||aAO of)&&aCV needs needs.length)):=rfl
 obtain⟨h1,h2,h3⟩:=hS
 have h3':=h3
 unfold maxLen at h3'
 cases x1:aAO fn
 ·rw[x1] at hN1
  go_enter Tryz.func157,Tryz.ntmps157
  go_wp2_with (go_at_call_of 105 (Value.string fn);refine(hN1 _).mono ?_;rintro e w' ⟨rfl,rfl⟩)
  go_ret
  exact⟨aA4 (by rw[HF.out,x1];rfl),aA2 _ _⟩
 rw[x1] at hN1
 cases x2:(aAF of||aAO of)
 ·have hs:aAF of=false:=by cases h:aAF of<;>simp_all
  have hn:aAO of=false:=by cases h:aAO of<;>simp_all
  rw[hs] at hL
  rw[hn] at hN2
  go_enter Tryz.func157,Tryz.ntmps157
  go_wp2_with (first| (go_at_call_of 105 (Value.string fn);refine(hN1 _).mono ?_;rintro e w' ⟨rfl,rfl⟩)| (go_at_call 108;refine(hL _).mono ?_;rintro e w' ⟨rfl,rfl⟩)| (go_at_call_of 105 (Value.string of);refine(hN2 _).mono ?_;rintro e w' ⟨rfl,rfl⟩))
  go_ret
  exact⟨aA4 (by rw[HF.out,x2];simp),aA2 _ _⟩
 have HE:Hid (aBR ⟨fn,of,l,m,fr,hi,sh,needs⟩=aCV needs needs.length):=by show _=_;rw[HF.out,x1,x2];rfl
 have key:∀b1 b2:Bool,aAF of=b1→(b1=false→aAO of=b2∧b2=true)→Calls Tryz.prog 157 #[.agg #[.string fn,.string of,.bool l,.bool m,.bool fr,.bool hi,.bool sh,.slice na needs.length nc]] w fun e w'=>e=.returned (.bool (aBR ⟨fn,of,l,m,fr,hi,sh,needs⟩))∧Below w.heap.size w w':=by
  intro b1 b2 hb1 hb2
  rw[hb1] at hL
  cases b1
  all_goals
   first| (obtain⟨hn2,rfl⟩:=hb2 rfl;rw[hn2] at hN2;clear hn2)| skip
   clear hb2
   go_enter Tryz.func157,Tryz.ntmps157
   go_wp2_with (first| (go_at_call_of 105 (Value.string fn);refine(hN1 _).mono ?_;rintro e w' ⟨rfl,rfl⟩)| (go_at_call 108;refine(hL _).mono ?_;rintro e w' ⟨rfl,rfl⟩)| (go_at_call_of 105 (Value.string of);refine(hN2 _).mono ?_;rintro e w' ⟨rfl,rfl⟩))
   go_loop [24] (fun i=>∃k:Nat,k≤needs.length∧i=.int .i64 k∧aCV needs k=true) (fun i=>needs.length- (intOf i).toNat)
   case atStart=>exact⟨0,Nat.zero_le _,rfl,rfl⟩
   case round=>
    obtain⟨k,hk,rfl,hp⟩:=hrel
    have HP:Hid (aCV needs k=true):=hp
    clear hp
    by_cases hlt:k<needs.length
    ·obtain⟨d,doff,rfl,hdB,hcc⟩:=h1 (by intro e;simp[e] at hlt)
     have hck:∀o,(w.alloc o).cell? ⟨d,doff+k,none⟩=some (.string (nth needs k)):=fun o=>((aA2 w o).cell (p:=⟨d,doff+k,none⟩) (by show d<_;omega)).trans (hcc k hlt)
     have hNk:=fun w=>aCM (nth needs k) w (h2 k)
     clear hcc h1
     cases x3:aAO (nth needs k)
     ·rw[x3] at hNk
      have hres:Hid (aCV needs needs.length=false):=aBF (k:=k) hlt x3
      go_wp2_with (go_at_call 105;refine(hNk _).mono ?_;rintro e w' ⟨rfl,rfl⟩)
      go_ret
      exact⟨aA4 (by rw[HE.out,hres.out]),aA2 _ _⟩
     ·rw[x3] at hNk
      go_wp2_with (go_at_call 105;refine(hNk _).mono ?_;rintro e w' ⟨rfl,rfl⟩)
      go_round
      case rel=>exact⟨k+1,by omega,by go_num,by rw[aHY,HP.out,x3];rfl⟩
      case measure=>simp[intOf];omega
    ·go_wp2_with fail
     go_ret
     have e:k=needs.length:=by omega
     exact⟨aA4 (by rw[HE.out,←e,HP.out]),aA2 _ _⟩
 exact key (aAF of) (aAO of) rfl fun h=>⟨rfl,by rw[h] at x2;simpa using x2⟩
def aAQ(fs:List F)(n:Nat):Bool:=(List.range n).all fun i=>aBR (fth fs i)
theorem aEB(fs:List F)(n:Nat):aAQ fs (n+1)=(aAQ fs n&&aBR (fth fs n)):=by simp[aAQ,List.range_succ]
def aDW(fs:List F)(n:Nat):Bool:=(List.range n).all fun i=>!isT (fth fs i).of [113,117,101,114,121]
theorem aIW(fs:List F)(n:Nat):aDW fs (n+1)=(aDW fs n&&!isT (fth fs n).of [113,117,101,114,121]):=by simp[aDW,List.range_succ]
set_option maxHeartbeats 800000 in
theorem aI6(t:T)(w:World)(B:Nat)(v:Value)(hR:TRep w (·<B) t v)(hB:B≤w.heap.size):
  Calls Tryz.prog 142 #[v] w fun e w'=>e=.returned (.bool (!aDW t.fields t.fields.length))∧Below w.heap.size w w':=by
 obtain⟨name,key,fields⟩:=t
 obtain⟨fa,fc,rfl,hK,hnc,hn,ho⟩:=hR
 simp only at hK hnc hn ho ⊢
 have h3:=hK.1
 go_enter Tryz.func142,Tryz.ntmps142
 go_wp2_with fail
 go_loopw [8] (fun i wr=>∃k:Nat,k≤fields.length∧i=.int .i64 k∧Below w.heap.size w wr∧aDW fields k=true) (fun i _=>fields.length- (intOf i).toNat)
 case atStart=>exact⟨0,Nat.zero_le _,rfl,aA2 _ _,rfl⟩
 case round=>
  obtain⟨k,hk,rfl,hbw,hp⟩:=hrel
  have HP:Hid (aDW fields k=true):=hp
  clear hp
  have hz:=hbw.size
  by_cases hlt:k<fields.length
  ·obtain⟨b,off,na,nc,rfl,-,hcs⟩:=hK.at hB k hlt
   obtain⟨c0,c1,c2,c3,c4,c5,c6,c7⟩:=hcs wr hbw
   clear hcs
   cases x1:((fth fields k).of.toList==[113,117,101,114,121])
   ·go_wp2_with fail
    go_roundw
    case rel=>exact⟨k+1,by omega,by go_num,hbw.alloc hz _,by rw[aIW,HP.out];simp[isT,x1]⟩
    case measure=>simp[intOf];omega
   ·have hres:Hid (aDW fields fields.length=false):=aBF (k:=k) hlt (by simp[isT,x1])
    go_wp2_with fail
    go_ret
    exact⟨aA4 (by rw[hres.out];rfl),hbw.alloc hz _⟩
  ·go_wp2_with fail
   go_ret
   have e:k=fields.length:=by omega
   exact⟨aA4 (by rw[←e,HP.out];rfl),hbw⟩
end Go.Proofs.YtokmgbidmnanpaaGreatDoor
namespace Go.Proofs.YtokmgbidmnanpaaGreatDoor
open Go.RowKit
theorem aP0(ks:List Se)(f:Nat):∀n,n≤aBX (f+1) ks n
 |0=>Nat.zero_le _
 |n+1=>by have:=aP0 ks f n;rw[aBN,aBD];omega
end Go.Proofs.YtokmgbidmnanpaaGreatDoor
namespace Go.Proofs.YtokmgbidmnanpaaGreatDoor
open Go.RowKit
theorem aC8(a b:ByteArray):(a++b).toList=a.toList++b.toList:=by
 rw[ByteArray.toList_eq,ByteArray.toList_eq,ByteArray.toList_eq,ByteArray.data_append]
 simp
theorem aGU(W:World)(b:Nat)(v:Nat)(hv:v<256)(hb:W.cell? ⟨b,0,none⟩=some (.int .u8 (v:Int))):
  Sem.run Tryz.prog (convert 22 9 (.slice (some ⟨b,0,none⟩) 1 1)) W=.ok (.string ⟨#[UInt8.ofNat v]⟩) W:=
 run_convert_bytes_back (P:=Tryz.prog) W 22 9 5 ⟨b,0,none⟩ 1 [UInt8.ofNat v] Tryz.underlying22 Tryz.underlying5 Tryz.underlying9 (fun j hj=>by
  have hj0:j=0:=by simpa using hj
  subst hj0
  have hd:(UInt8.ofNat v).toNat=v:=by rw[UInt8.toNat_ofNat'];omega
  simp only[List.getElem_cons_zero,hd]
  simpa[Addr.add] using hb)
set_option maxRecDepth 20000 in
set_option maxHeartbeats 1600000 in
theorem aR9:∀(m n:Nat) (w:World) (dd:Nat),n≤m→n≤999999→n<10 ^ (dd+1)→dd≤10→
  Calls Tryz.prog 88 #[.int .i64 n] w fun e w'=>(∃x:ByteArray,e=.returned (.string x)∧x.toList=decL n∧x.size≤dd+1)∧Below w.heap.size w w':=by
 intro m
 induction m using Nat.strongRecOn with
 |ind m IH=>
  intro n w dd hn h9 hdd hd10
  have hn0:¬(n:Int)<0:=by omega
  have hn1:¬(n:Int)< -9223372036854775807:=by omega
  by_cases h10:n<10
  ·have HD:=aA0 (aHE h10)
   have hi10:(n:Int)<10:=by omega
   have hw8:IntKind.u8.wrap (48+(n:Int))=48+(n:Int):=by have:IntKind.u8.wrap (48+(n:Int))=(48+(n:Int)) % 256:=rfl;omega
   have hcv:=aGU (w.alloc (.cells #[.int .u8 (48+(n:Int))] 5)) w.heap.size (48+n) (by omega) (by simp[go_sem])
   generalize UInt8.ofNat (48+n)=dg at hcv HD
   go_enter Tryz.func88,Tryz.ntmps88
   go_wp2_with fail
   go_ret
   exact⟨⟨_,rfl,by rw[HD.out,ByteArray.toList_eq],by show 1≤_;omega⟩,aA2 w _⟩
  ·obtain⟨dd,rfl⟩:∃d,dd=d+1:=⟨dd- 1,by
    rcases Nat.eq_zero_or_pos dd with h| h
    ·subst h;simp at hdd;omega
    ·omega⟩
   have HDB:=aA0 (aLH h10)
   have hi10:¬(n:Int)<10:=by omega
   have hIH:=fun W=>IH (n / 10) (by omega) (n / 10) W dd (Nat.le_refl _) (by omega) (by rw[Nat.pow_succ] at hdd;omega) (by omega)
   simp only[Int.natCast_ediv,Int.cast_ofNat_Int] at hIH
   have HIH:=aA0 hIH
   have HCV:Hid (∀W b,W.cell? ⟨b,0,none⟩=some (.int .u8 (48+(n:Int) % 10))→Sem.run Tryz.prog (convert 22 9 (.slice (some ⟨b,0,none⟩) 1 1)) W=.ok (.string ⟨#[UInt8.ofNat (48+n % 10)]⟩) W):=aA0 fun W b hb=>aGU W b (48+n % 10) (by omega) (by rw[hb];congr 2)
   generalize hdg:UInt8.ofNat (48+n % 10)=dg at HCV HDB
   have hsd:(⟨#[dg]⟩:ByteArray).size=1:=rfl
   have ht:(n:Int).tmod 10=(n:Int) % 10:=Int.tmod_eq_emod_of_nonneg (by omega)
   have hw1:IntKind.i64.wrap ((n:Int) / 10)=(n:Int) / 10:=IntWalk.i64_in _ (by omega)
   have hw2:IntKind.i64.wrap (48+(n:Int) % 10)=48+(n:Int) % 10:=IntWalk.i64_in _ (by omega)
   have hw3:IntKind.u8.wrap (48+(n:Int) % 10)=48+(n:Int) % 10:=by have:IntKind.u8.wrap (48+(n:Int) % 10)=(48+(n:Int) % 10) % 256:=rfl;omega
   clear hIH IH
   go_enter Tryz.func88,Tryz.ntmps88
   go_wp2_with fail
   refine wp_region_held_drew (S:=(fun _=>True)) (by kernel_rfl) trivial (fun hHeld=>?_)
   have bX:Below w.heap.size w w.drew:=(Below.refl _ _).drew
   generalize w.drew=wD at*
   refine tkH 0 hHeld ?_
   refine tkH 1 hHeld ?_
   refine tkH 3 hHeld ?_
   refine tkH 4 hHeld ?_
   refine tkH 5 hHeld ?_
   refine tkH 6 hHeld ?_
   refine rdyH [2,7] ?_
   refine rcH (fun K hK=>?_) ?_
   ·go_simp
    refine(HIH.out wD).mono ?_
    rintro e wC ⟨⟨x,rfl,hx,hxz⟩,bC⟩
    have bX:=bX.trans (bC.mono bX.size)
    have HX:=aA0 hx
    have hxs:¬9223372036854775807<x.size+1:=by omega
    clear hx
    refine hK.out _ _ trivial (fun hHeld=>?_)
    clear hK K
    try simp only[Act.put,List.setIfInBounds_toArray,List.set_cons_zero,List.set_cons_succ]
    refine rdyH [7] ?_
    refine rcH (fun K hK=>?_) AllReadyH.nil
    go_simp
    have bA:=aA2 wC (.cells #[.int .u8 (48+(n:Int) % 10)] 5)
    have nA:=aA3 (w:=wC) #[.int .u8 (48+(n:Int) % 10)] 5 rfl
    have zA:wC.heap.size<(wC.alloc (.cells #[.int .u8 (48+(n:Int) % 10)] 5)).heap.size:=by simp
    have bX:=bX.trans (bA.mono bX.size)
    refine hK.out _ _ trivial (fun hHeld=>?_)
    clear hK K
    try simp only[Act.put,List.setIfInBounds_toArray,List.set_cons_zero,List.set_cons_succ]
    generalize wC.alloc (.cells #[.int .u8 (48+(n:Int) % 10)] 5)=wA at*
    refine rdyH [8] ?_
    refine rcH (fun K hK=>?_) AllReadyH.nil
    have hcv:=HCV.out wA _ (aA1 nA 0 (by simp)).1
    go_simp
    refine hK.out _ _ trivial (fun hHeld=>?_)
    clear hK K
    try simp only[Act.put,List.setIfInBounds_toArray,List.set_cons_zero,List.set_cons_succ]
    refine tkH 9 hHeld ?_
    refine tkH 10 hHeld ?_
    refine wpAnyH_done (by kernel_rfl) ?_ _
    go_wp2_with fail
    go_ret
    exact⟨⟨x++⟨#[dg]⟩,rfl,by rw[HDB.out,←HX.out,aC8,ByteArray.toList_eq ⟨#[dg]⟩],by rw[ByteArray.size_append,hsd];omega⟩,bX⟩
   refine rcH (fun K hK=>?_) AllReadyH.nil
   go_simp
   have bA:=aA2 wD (.cells #[.int .u8 (48+(n:Int) % 10)] 5)
   have nA:=aA3 (w:=wD) #[.int .u8 (48+(n:Int) % 10)] 5 rfl
   have zA:wD.heap.size<(wD.alloc (.cells #[.int .u8 (48+(n:Int) % 10)] 5)).heap.size:=by simp
   have bX:=bX.trans (bA.mono bX.size)
   refine hK.out _ _ trivial (fun hHeld=>?_)
   clear hK K
   try simp only[Act.put,List.setIfInBounds_toArray,List.set_cons_zero,List.set_cons_succ]
   generalize wD.alloc (.cells #[.int .u8 (48+(n:Int) % 10)] 5)=wA at*
   refine rdyH [2,8] ?_
   refine rcH (fun K hK=>?_) ?_
   ·go_simp
    refine(HIH.out wA).mono ?_
    rintro e wC ⟨⟨x,rfl,hx,hxz⟩,bC⟩
    have bX:=bX.trans (bC.mono bX.size)
    have HX:=aA0 hx
    have hxs:¬9223372036854775807<x.size+1:=by omega
    clear hx
    have nA:=(bC.block _ zA).trans nA
    have zA:=Nat.lt_of_lt_of_le zA bC.size
    refine hK.out _ _ trivial (fun hHeld=>?_)
    clear hK K
    try simp only[Act.put,List.setIfInBounds_toArray,List.set_cons_zero,List.set_cons_succ]
    refine rdyH [8] ?_
    refine rcH (fun K hK=>?_) AllReadyH.nil
    have hcv:=HCV.out wC _ (aA1 nA 0 (by simp)).1
    go_simp
    refine hK.out _ _ trivial (fun hHeld=>?_)
    clear hK K
    try simp only[Act.put,List.setIfInBounds_toArray,List.set_cons_zero,List.set_cons_succ]
    refine tkH 9 hHeld ?_
    refine tkH 10 hHeld ?_
    refine wpAnyH_done (by kernel_rfl) ?_ _
    go_wp2_with fail
    go_ret
    exact⟨⟨x++⟨#[dg]⟩,rfl,by rw[HDB.out,←HX.out,aC8,ByteArray.toList_eq ⟨#[dg]⟩],by rw[ByteArray.size_append,hsd];omega⟩,bX⟩
   refine rcH (fun K hK=>?_) AllReadyH.nil
   have hcv:=HCV.out wA _ (aA1 nA 0 (by simp)).1
   go_simp
   refine hK.out _ _ trivial (fun hHeld=>?_)
   clear hK K
   try simp only[Act.put,List.setIfInBounds_toArray,List.set_cons_zero,List.set_cons_succ]
   refine rdyH [2] ?_
   refine rcH (fun K hK=>?_) AllReadyH.nil
   go_simp
   refine(HIH.out wA).mono ?_
   rintro e wC ⟨⟨x,rfl,hx,hxz⟩,bC⟩
   have bX:=bX.trans (bC.mono bX.size)
   have HX:=aA0 hx
   have hxs:¬9223372036854775807<x.size+1:=by omega
   clear hx
   have nA:=(bC.block _ zA).trans nA
   have zA:=Nat.lt_of_lt_of_le zA bC.size
   refine hK.out _ _ trivial (fun hHeld=>?_)
   clear hK K
   try simp only[Act.put,List.setIfInBounds_toArray,List.set_cons_zero,List.set_cons_succ]
   refine tkH 9 hHeld ?_
   refine tkH 10 hHeld ?_
   refine wpAnyH_done (by kernel_rfl) ?_ _
   go_wp2_with fail
   go_ret
   exact⟨⟨x++⟨#[dg]⟩,rfl,by rw[HDB.out,←HX.out,aC8,ByteArray.toList_eq ⟨#[dg]⟩],by rw[ByteArray.size_append,hsd];omega⟩,bX⟩
end Go.Proofs.YtokmgbidmnanpaaGreatDoor
namespace Go.Proofs.YtokmgbidmnanpaaGreatDoor
open Go.RowKit
set_option maxRecDepth 20000 in
set_option maxHeartbeats 1600000 in
theorem aQN(nm:ByteArray)(s:Se)(sa:Option Addr)(sc:Nat)(g:F)(na:Option Addr)(nc:Nat)(known:Bool)(w:World):
  Calls Tryz.prog 69 #[.agg #[.string s.al,.string s.name,.bool s.one,.int .i64 s.id,.slice sa s.kids.length sc,.string nm,.string g.name,.string g.of,.bool g.list,.bool g.must,.bool g.far,.bool g.hidden,.bool g.shared,.slice na g.needs.length nc,.bool known]] w
   fun e w'=>e=.returned (.int .i64 (aDJ nm s.one s.kids.length g known))∧Below w.heap.size w w':=by
 obtain⟨r,hr⟩:∃r,r=aDJ nm s.one s.kids.length g known:=⟨_,rfl⟩
 rw[←hr]
 unfold aDJ at hr
 rw[show qry.toList=[113,117,101,114,121] by rw[ByteArray.toList_eq];rfl] at hr
 have HL:=aA0 (fun W=>aFI g.of W)
 generalize aAF g.of=leaf at*
 generalize s.kids.length=kl at*
 generalize s.one=one at*
 generalize g.list=gl at*
 have HR:=aA0 hr
 clear hr
 cases known
 ·have HV:=aA0 (show r=1 by rw[HR.out];simp)
  clear HR
  go_enter Tryz.func69,Tryz.ntmps69
  go_wp2_with (go_at_call 108;refine(HL.out _).mono ?_;rintro e w' ⟨rfl,rfl⟩)
  go_ret
  exact⟨by rw[HV.out];rfl,aA2 _ _⟩
 cases leaf
 ·by_cases hk:kl=0
  ·subst hk
   have HV:=aA0 (show r=3 by rw[HR.out];simp)
   clear HR
   go_enter Tryz.func69,Tryz.ntmps69
   go_wp2_with (go_at_call 108;refine(HL.out _).mono ?_;rintro e w' ⟨rfl,rfl⟩)
   go_ret
   exact⟨by rw[HV.out];rfl,aA2 _ _⟩
  have hk1:0<kl:=by omega
  have hk2:¬(kl:Int)≤0:=by omega
  have hk3:((kl:Int)==0)=false:=beq_eq_false_iff_ne.2 (by omega)
  cases one
  ·have HV:=aA0 (show r=0 by rw[HR.out];simp[hk])
   clear HR hk
   go_enter Tryz.func69,Tryz.ntmps69
   go_wp2_with (go_at_call 108;refine(HL.out _).mono ?_;rintro e w' ⟨rfl,rfl⟩)
   go_ret
   exact⟨by rw[HV.out];rfl,aA2 _ _⟩
  cases gl
  ·cases hq:(nm.toList==[113,117,101,114,121])
   ·have hqq:¬nm.toList=[113,117,101,114,121]:=by simpa using hq
    have hq3:(nm.toList !=[113,117,101,114,121])=true:=by simp only[bne,hq];rfl
    have HV:=aA0 (show r=4 by rw[HR.out];simp[hk,hqq])
    clear HR hk hqq
    go_enter Tryz.func69,Tryz.ntmps69
    go_wp2_with (go_at_call 108;refine(HL.out _).mono ?_;rintro e w' ⟨rfl,rfl⟩)
    go_ret
    exact⟨by rw[HV.out];rfl,aA2 _ _⟩
   ·have hqq:nm.toList=[113,117,101,114,121]:=by simpa using hq
    have hq3:(nm.toList !=[113,117,101,114,121])=false:=by simp only[bne,hq];rfl
    have HV:=aA0 (show r=0 by rw[HR.out];simp[hk,hqq])
    clear HR hk hqq
    go_enter Tryz.func69,Tryz.ntmps69
    go_wp2_with (go_at_call 108;refine(HL.out _).mono ?_;rintro e w' ⟨rfl,rfl⟩)
    go_ret
    exact⟨by rw[HV.out];rfl,aA2 _ _⟩
  ·have HV:=aA0 (show r=4 by rw[HR.out];simp[hk])
   clear HR hk
   go_enter Tryz.func69,Tryz.ntmps69
   go_wp2_with (go_at_call 108;refine(HL.out _).mono ?_;rintro e w' ⟨rfl,rfl⟩)
   go_ret
   exact⟨by rw[HV.out];rfl,aA2 _ _⟩
 ·by_cases hk:kl=0
  ·subst hk
   cases one
   ·have HV:=aA0 (show r=0 by rw[HR.out];simp)
    clear HR
    go_enter Tryz.func69,Tryz.ntmps69
    go_wp2_with (go_at_call 108;refine(HL.out _).mono ?_;rintro e w' ⟨rfl,rfl⟩)
    go_ret
    exact⟨by rw[HV.out];rfl,aA2 _ _⟩
   ·have HV:=aA0 (show r=4 by rw[HR.out];simp)
    clear HR
    go_enter Tryz.func69,Tryz.ntmps69
    go_wp2_with (go_at_call 108;refine(HL.out _).mono ?_;rintro e w' ⟨rfl,rfl⟩)
    go_ret
    exact⟨by rw[HV.out];rfl,aA2 _ _⟩
  have hk1:0<kl:=by omega
  have hk2:¬(kl:Int)≤0:=by omega
  have HV:=aA0 (show r=2 by rw[HR.out];simp[hk1])
  clear HR
  go_enter Tryz.func69,Tryz.ntmps69
  go_wp2_with (go_at_call 108;refine(HL.out _).mono ?_;rintro e w' ⟨rfl,rfl⟩)
  go_ret
  exact⟨by rw[HV.out];rfl,aA2 _ _⟩
end Go.Proofs.YtokmgbidmnanpaaGreatDoor
