import Derived.Test.YtcebpkeiaiiphaaGreatDoorRB3
set_option linter.unusedSimpArgs false
set_option linter.unusedVariables false
namespace Go.Proofs.YtcebpkeiaiiphaaGreatDoor
open Go.RowKit
def isT(s:ByteArray)(l:List UInt8):Bool:=s.toList==l
def aAV(s:ByteArray):Bool:=isT s [105,110,116]||isT s [116,101,120,116]||isT s [98,111,111,108]
set_option maxHeartbeats 400000 in
theorem aAY(s:ByteArray)(w:World):
  Calls Tryz.prog 76 #[.string s] w fun e w'=>e=.returned (.bool (aAV s))∧w=w':=by
 cases h1:(s.toList==[105,110,116])<;>cases h2:(s.toList==[116,101,120,116])<;>
 ·go_enter Tryz.func76,Tryz.ntmps76
  go_wp2
  go_ret
  exact⟨aA4 (by simp only[aAV,isT,h1,h2];rfl),rfl⟩
def aBA(s:ByteArray):Bool:=aES s&&decide (s.size≤8)&&!(aAL s 0==95)&&!aAV s&&!isT s [112,97,114,116]&&!isT s [116,121,112,101]&&!isT s [107,101,121]&&!isT s [102,97,114]&&!isT s [104,105,100,100,101,110]&&!isT s [115,104,97,114,101,100]&&!isT s [110,101,101,100,115]
set_option maxHeartbeats 1600000 in
theorem aDJ(s:ByteArray)(w:World)(hs:s.size≤maxLen):
  Calls Tryz.prog 72 #[.string s] w fun e w'=>e=.returned (.bool (aBA s))∧w=w':=by
 cases hw:aES s
 ·go_enter Tryz.func72,Tryz.ntmps72
  go_wp2_with (first| (go_at_call 101;refine(aBY _ _ hs).mono ?_;rintro e w' ⟨rfl,rfl⟩)| (go_at_call 76;refine(aAY _ _).mono ?_;rintro e w' ⟨rfl,rfl⟩))
  go_ret
  exact⟨aA4 (by simp[aBA,isT,hw]),rfl⟩
 have h1:0<s.size:=by
  rw[aES] at hw;simp only[Bool.and_eq_true,decide_eq_true_eq] at hw;omega
 have hb0:=aEK s 0 h1
 by_cases h8:s.size≤8
 case neg=>
  have h8':¬(s.size:Int)≤8:=by omega
  go_enter Tryz.func72,Tryz.ntmps72
  go_wp2_with (first| (go_at_call 101;refine(aBY _ _ hs).mono ?_;rintro e w' ⟨rfl,rfl⟩)| (go_at_call 76;refine(aAY _ _).mono ?_;rintro e w' ⟨rfl,rfl⟩))
  go_ret
  exact⟨aA4 (by simp[aBA];omega),rfl⟩
 have H8:Hid (decide (s.size≤8)=true):=by show _=_;simpa using h8
 cases hu:(aAL s 0==95)
 case true=>
  have hu':(aAL s 0 !=95)=false:=by simp only[bne,hu];rfl
  go_enter Tryz.func72,Tryz.ntmps72
  go_wp2_with (first| (go_at_call 101;refine(aBY _ _ hs).mono ?_;rintro e w' ⟨rfl,rfl⟩)| (go_at_call 76;refine(aAY _ _).mono ?_;rintro e w' ⟨rfl,rfl⟩))
  go_ret
  exact⟨aA4 (by simp only[aBA,hu];simp),rfl⟩
 have hu':(aAL s 0 !=95)=true:=by simp only[bne,hu];rfl
 cases hc:aAV s
 case true=>
  go_enter Tryz.func72,Tryz.ntmps72
  go_wp2_with (first| (go_at_call 101;refine(aBY _ _ hs).mono ?_;rintro e w' ⟨rfl,rfl⟩)| (go_at_call 76;refine(aAY _ _).mono ?_;rintro e w' ⟨rfl,rfl⟩))
  go_ret
  exact⟨aA4 (by simp only[aBA,hc];simp),rfl⟩
 cases k0:(s.toList==[112,97,114,116])
 case true=>
  go_enter Tryz.func72,Tryz.ntmps72
  go_wp2_with (first| (go_at_call 101;refine(aBY _ _ hs).mono ?_;rintro e w' ⟨rfl,rfl⟩)| (go_at_call 76;refine(aAY _ _).mono ?_;rintro e w' ⟨rfl,rfl⟩))
  go_ret
  exact⟨aA4 (by simp only[aBA,isT,k0];simp),rfl⟩
 cases k1:(s.toList==[116,121,112,101])
 case true=>
  go_enter Tryz.func72,Tryz.ntmps72
  go_wp2_with (first| (go_at_call 101;refine(aBY _ _ hs).mono ?_;rintro e w' ⟨rfl,rfl⟩)| (go_at_call 76;refine(aAY _ _).mono ?_;rintro e w' ⟨rfl,rfl⟩))
  go_ret
  exact⟨aA4 (by simp only[aBA,isT,k1];simp),rfl⟩
 cases k2:(s.toList==[107,101,121])
 case true=>
  go_enter Tryz.func72,Tryz.ntmps72
  go_wp2_with (first| (go_at_call 101;refine(aBY _ _ hs).mono ?_;rintro e w' ⟨rfl,rfl⟩)| (go_at_call 76;refine(aAY _ _).mono ?_;rintro e w' ⟨rfl,rfl⟩))
  go_ret
  exact⟨aA4 (by simp only[aBA,isT,k2];simp),rfl⟩
 cases k3:(s.toList==[102,97,114])
 case true=>
  go_enter Tryz.func72,Tryz.ntmps72
  go_wp2_with (first| (go_at_call 101;refine(aBY _ _ hs).mono ?_;rintro e w' ⟨rfl,rfl⟩)| (go_at_call 76;refine(aAY _ _).mono ?_;rintro e w' ⟨rfl,rfl⟩))
  go_ret
  exact⟨aA4 (by simp only[aBA,isT,k3];simp),rfl⟩
 cases k4:(s.toList==[104,105,100,100,101,110])
 case true=>
  go_enter Tryz.func72,Tryz.ntmps72
  go_wp2_with (first| (go_at_call 101;refine(aBY _ _ hs).mono ?_;rintro e w' ⟨rfl,rfl⟩)| (go_at_call 76;refine(aAY _ _).mono ?_;rintro e w' ⟨rfl,rfl⟩))
  go_ret
  exact⟨aA4 (by simp only[aBA,isT,k4];simp),rfl⟩
 cases k5:(s.toList==[115,104,97,114,101,100])
 case true=>
  go_enter Tryz.func72,Tryz.ntmps72
  go_wp2_with (first| (go_at_call 101;refine(aBY _ _ hs).mono ?_;rintro e w' ⟨rfl,rfl⟩)| (go_at_call 76;refine(aAY _ _).mono ?_;rintro e w' ⟨rfl,rfl⟩))
  go_ret
  exact⟨aA4 (by simp only[aBA,isT,k5];simp),rfl⟩
 go_enter Tryz.func72,Tryz.ntmps72
 go_wp2_with (first| (go_at_call 101;refine(aBY _ _ hs).mono ?_;rintro e w' ⟨rfl,rfl⟩)| (go_at_call 76;refine(aAY _ _).mono ?_;rintro e w' ⟨rfl,rfl⟩))
 go_ret
 exact⟨aA4 (by simp only[aBA,isT,hw,H8.out,hu,hc,k0,k1,k2,k3,k4,k5];simp),rfl⟩
theorem aK5(fs:List F)(c:Nat)(t:Int)(lo hi:Nat)(a:Option Addr)(w:World)(hw:WFs w lo hi fs a)(hl:fs.length≤1048576)(hn:∀i,(fth fs i).needs.length≤1048576)(h0:0≤t)(h1:∀i,i≤fs.length→t+mFs fs i≤1000000000000):
  Calls Tryz.prog 61 #[.slice a fs.length c,.int .i64 t] w fun e w'=>e=.returned (.int .i64 (t+mFs fs fs.length))∧aAM lo hi w w':=by
 have h:=aJZ fs c t.toNat lo hi a w hw hl hn (fun i hi=>by have:=h1 i hi;omega)
 rw[show((t.toNat:Nat):Int)=t by omega,show(((t.toNat+mFs fs fs.length:Nat)):Int)=t+mFs fs fs.length by omega] at h
 exact h
def WTs(w:World)(lo hi:Nat)(ts:List T)(a:Option Addr):Prop:=0<ts.length→∃b off,a=some ⟨b,off,none⟩∧lo≤b∧b<hi∧∀i,i<ts.length→
 aDM w ⟨b,off+i*3,none⟩∧aDM w ⟨b,off+i*3+1,none⟩∧∃fa fc,w.cell? ⟨b,off+i*3+2,none⟩=some (.slice fa (tth ts i).fields.length fc)∧WFs w lo hi (tth ts i).fields fa
theorem WTs.keep{lo hi lo' hi':Nat}{ts:List T}{w w':World}{a:Option Addr}(h:WTs w lo hi ts a)(m:aAM lo' hi' w w'):WTs w' lo hi ts a:=fun hn=>by
 obtain⟨b,off,e,h1,h2,hc⟩:=h hn
 refine⟨b,off,e,h1,h2,fun i hi=>?_⟩
 obtain⟨x0,x1,fa,fc,x2,x3⟩:=hc i hi
 exact⟨x0.keep m,x1.keep m,fa,fc,m.list _ _ _ _ x2,x3.keep m⟩
def mTs(ts:List T):Nat→Nat
 |0=>0
 |n+1=>mTs ts n+2+mFs (tth ts n).fields (tth ts n).fields.length
theorem aUQ(fs:List F):∀i n,i≤n→mFs fs i≤mFs fs n:=fun i n h=>by
 induction h with
 |refl=>exact Nat.le_refl _
 |step h ih=>exact Nat.le_trans ih (by show _≤mFs fs _+7+_;omega)
set_option maxRecDepth 20000 in
set_option maxHeartbeats 3200000 in
theorem aL6(ts:List T)(c k lo hi:Nat)(a:Option Addr)(w:World)(hw:WTs w lo hi ts a)(hl:ts.length≤1048576)(hf:∀i,(tth ts i).fields.length≤1048576)(hn:∀i j,(fth (tth ts i).fields j).needs.length≤1048576)(hk:∀i,i≤ts.length→k+mTs ts i≤1000000000000):
  Calls Tryz.prog 36 #[.slice a ts.length c,.int .i64 k] w fun e w'=>e=.returned (.int .i64 ((k+mTs ts ts.length:Nat):Int))∧aAM lo hi w w':=by
 go_enter Tryz.func36,Tryz.ntmps36
 go_wp2_with fail
 go_loopw [1,5] (fun kk i wr=>∃j:Nat,j≤ts.length∧kk=.int .i64 ((k+mTs ts j:Nat):Int)∧i=.int .i64 j∧aAM lo hi w wr) (fun _ i _=>ts.length- (intOf i).toNat)
 case atStart=>exact⟨0,Nat.zero_le _,rfl,rfl,aAM.refl _ _ _⟩
 case round=>
  obtain⟨j,hj,rfl,rfl,hm⟩:=hrel
  obtain⟨w0,rfl⟩:∃x,x=wr:=⟨wr,rfl⟩
  by_cases hlt:j<ts.length
  ·obtain⟨b,off,rfl,h1,h2,hcc⟩:=(hw.keep hm) (by omega)
   obtain⟨x0,x1,fa,fc,x2,x3⟩:=hcc j hlt
   clear hcc
   have hji:(j:Int)<(ts.length:Int):=by omega
   have hkj:=hk (j+1) (by omega)
   have HK:Hid (mTs ts (j+1)=mTs ts j+2+mFs (tth ts j).fields (tth ts j).fields.length):=rfl
   rw[HK.out] at hkj
   generalize mTs ts j=mj at hkj HK
   obtain⟨K,hKe⟩:∃K:Int,K=((k+mj:Nat):Int):=⟨_,rfl⟩
   have hK0:0≤K:=by omega
   have hK1:K+2+mFs (tth ts j).fields (tth ts j).fields.length≤1000000000000:=by omega
   have HKE:Hid (K=((k+mj:Nat):Int)):=hKe
   rw[←hKe]
   clear hKe
   have hB1:Hid (lo≤b∧b<hi):=⟨h1,h2⟩
   have HX:Hid (aDM w0 ⟨b,off+j*3,none⟩∧aDM w0 ⟨b,off+j*3+1,none⟩∧w0.cell? ⟨b,off+j*3+2,none⟩=some (.slice fa (tth ts j).fields.length fc)∧WFs w0 lo hi (tth ts j).fields fa):=⟨x0,x1,x2,x3⟩
   clear x0 x1 x2 x3 h1 h2
   go_wp2_with fail
   refine(aD5 K w0 hK0 (by omega)).mono ?_
   rintro e w1 ⟨rfl,hb1⟩
   have m1:=aAM.of_below lo hi hb1
   obtain⟨⟨s0,t0⟩,f0⟩:=HX.out.1.keep m1
   have m1':=m1.trans (aAM.set_text t0 hB1.out.1 hB1.out.2 (aEI K.toNat))
   generalize aEI K.toNat=mt0 at m1' ⊢
   go_wp2_with fail
   obtain⟨W1,hW1⟩:∃W,W=w1.setCell ⟨b,off+j*3,none⟩ (.string mt0):=⟨_,rfl⟩
   rw[←hW1] at m1' ⊢
   clear hW1 t0 f0 m1 hb1
   refine(aD5 (K+1) W1 (by omega) (by omega)).mono ?_
   rintro e w2 ⟨rfl,hb2⟩
   have m2:=m1'.trans (aAM.of_below lo hi hb2)
   obtain⟨⟨s1,t1⟩,f1⟩:=HX.out.2.1.keep m2
   generalize aEI (K+1).toNat=mt1
   have m3:=m2.trans (aAM.set_text t1 hB1.out.1 hB1.out.2 mt1)
   have q2:=m3.list _ _ _ _ HX.out.2.2.1
   have H8:Hid (WFs _ lo hi (tth ts j).fields fa):=HX.out.2.2.2.keep m3
   clear m1' hb2 m2
   go_wp2_with fail
   refine(aK5 (tth ts j).fields fc (K+1+1) lo hi fa _ H8.out (hf j) (hn j) (by omega) (fun i hi=>by have:=aUQ (tth ts j).fields i _ hi;omega)).mono ?_
   rintro e w5 ⟨rfl,m5⟩
   have hfin:Hid (K+1+1+(mFs (tth ts j).fields (tth ts j).fields.length:Nat)=((k+mTs ts (j+1):Nat):Int)):=by show _=_;rw[HK.out,HKE.out];omega
   have m6:=hm.trans (m3.trans m5)
   clear q2 t1 f1 m3 m5
   go_wp2_with fail
   go_roundw
   case rel=>exact⟨j+1,by omega,by rw[←hfin.out],by go_num,m6⟩
   case measure=>simp[intOf];omega
  ·go_wp2_with fail
   go_ret
   have e:j=ts.length:=by omega
   exact⟨by rw[e];rfl,hm⟩
theorem aTO(fs:List F):∀n,mFs fs n≤8*aBC fs n+7*n
 |0=>by simp[mFs]
 |n+1=>by
  rw[mFs,aC1]
  have:=aTO fs n
  have h:(fth fs n).needs.length≤szF (fth fs n):=by simp only[szF,szNs];omega
  omega
theorem aRW(ts:List T):∀n,mTs ts n≤8*aB8 ts n+2*n
 |0=>by simp[mTs]
 |n+1=>by
  rw[mTs,aBM]
  have:=aRW ts n
  have h1:=aTO (tth ts n).fields (tth ts n).fields.length
  have h2:szT (tth ts n)=(tth ts n).name.size+(tth ts n).key.size+((tth ts n).fields.length+aBC (tth ts n).fields (tth ts n).fields.length):=rfl
  omega
theorem aN7(fs:List F):∀i n,i≤n→aBC fs i≤aBC fs n:=fun i n h=>by
 induction h with
 |refl=>exact Nat.le_refl _
 |step h ih=>exact Nat.le_trans ih (by rw[aC1];omega)
theorem aJR(ts:List T):∀i n,i≤n→aB8 ts i≤aB8 ts n:=fun i n h=>by
 induction h with
 |refl=>exact Nat.le_refl _
 |step h ih=>exact Nat.le_trans ih (by rw[aBM];omega)
theorem aJ6(fs:List F)(h:szFs fs≤1048576)(j:Nat):(fth fs j).needs.length≤1048576:=by
 by_cases hj:j<fs.length
 ·have h1:=aN7 fs (j+1) fs.length hj
  rw[aC1] at h1
  have h2:(fth fs j).needs.length≤szF (fth fs j):=by simp only[szF,szNs];omega
  have h3:szFs fs=fs.length+aBC fs fs.length:=rfl
  omega
 ·have:fth fs j=F.zero:=by simp[fth,List.getD_eq_getElem?_getD,List.getElem?_eq_none (Nat.le_of_not_lt hj)]
  rw[this];simp[F.zero]
theorem aI0(ts:List T)(h:szTs ts≤1048576)(i:Nat):szFs (tth ts i).fields≤1048576:=by
 by_cases hi:i<ts.length
 ·have h1:=aJR ts (i+1) ts.length hi
  rw[aBM] at h1
  have h2:szT (tth ts i)=(tth ts i).name.size+(tth ts i).key.size+szFs (tth ts i).fields:=rfl
  have h3:szTs ts=ts.length+aB8 ts ts.length:=rfl
  omega
 ·have:tth ts i=T.zero:=by simp[tth,List.getD_eq_getElem?_getD,List.getElem?_eq_none (Nat.le_of_not_lt hi)]
  rw[this];decide
set_option maxHeartbeats 800000 in
theorem aPO(f:F)(w:World)(B:Nat)(v:Value)(hR:FRep w (·<B) f v)(hB:B≤w.heap.size):
  Calls Tryz.prog 142 #[v] w fun e w'=>∃(na:Option Addr) (nc:Nat),e=.returned (.agg #[.string f.name,.string f.of,.bool f.list,.bool f.must,.bool f.far,.bool f.hidden,.bool f.shared,.slice na f.needs.length nc])∧Below w.heap.size w w'∧
   FRep w' (fun b=>w.heap.size≤b∧b<w'.heap.size) f (.agg #[.string f.name,.string f.of,.bool f.list,.bool f.must,.bool f.far,.bool f.hidden,.bool f.shared,.slice na f.needs.length nc])∧NF w.heap.size w':=by
 obtain⟨na,nc,rfl,hs,hnc,hn,ho,hbs⟩:=hR
 obtain⟨name,of,l,m,fa,hi,sh,needs⟩:=f
 simp only at hs hnc hn ho hbs
 have hb3:∀o1 o2 o3,Below w.heap.size w (((w.alloc o1).alloc o2).alloc o3):=fun o1 o2 o3=>(((Below.refl _ _).alloc (Nat.le_refl _) _).alloc (by simp) _).alloc (by simp;omega) _
 go_enter Tryz.func142,Tryz.ntmps142
 go_wp2_with (
   go_at_call 169
   refine(aMJ needs na nc _ ((hs.under ((hb3 _ _ _).mono hB)).sub fun k hk=>by simp;omega) hbs).mono ?_
   rintro e w1 ⟨rfl,hb1,hsz1,hst1,hnf1⟩
   have HN1:Hid (NF w.heap.size w1):=NF.call (NF.three w _ _ _ _ _ _) hb1 hnf1
   clear hnf1
   obtain⟨c1,f1⟩:=aU8 hb1
   simp at hsz1
   have hlt1:w.heap.size+1+1<w1.heap.size:=by omega)
 have hbw:Below w.heap.size w w1:=(hb3 _ _ _).trans (hb1.mono (by simp;omega))
 have fin:=aUB (w:=w) (w1:=w1) (f:=⟨name,of,l,m,fa,hi,sh,needs⟩) (x:=.slice (some ⟨w.heap.size+1+1+1,0,none⟩) needs.length needs.length) (N:=w.heap.size) rfl hbw hsz1 (by simpa using hst1) hn ho hbs [.string name,.string of,.bool l,.bool m,.bool fa,.bool hi,.bool sh,.slice (some ⟨w.heap.size+1+1+1,0,none⟩) needs.length needs.length]
 refine bodyPost_ret (v:=.agg #[.string name,.string of,.bool l,.bool m,.bool fa,.bool hi,.bool sh,.slice (some ⟨w.heap.size+1+1+1,0,none⟩) needs.length needs.length]) ?res rfl ⟨_,_,rfl,fin.1,fin.2,fun a ha=>by simp only[World.frozen?_setCell];exact HN1.out a ha⟩
 case res=>
  have hr0:∀o1 o3 c,((((w.alloc o1).alloc (.cells c 80)).alloc o3)).rowIs (w.heap.size+1) 80 c.size (fun i=>c[i]?.getD undef):=fun o1 o3 c=>by
   have h:=((w.alloc o1).rowIs_alloc c 80 (fun i=>c[i]?.getD undef) (fun i hi=>by simp[hi])).alloc o3
   simpa using h
  have hr1:=(hr0 _ _ _).of_block (hb1.block (w.heap.size+1) (by simp))
  have p0:=hr1.cell (i:=0) (by simp)
  have p1:=hr1.cell (i:=1) (by simp)
  have p2:=hr1.cell (i:=2) (by simp)
  have p3:=hr1.cell (i:=3) (by simp)
  have p4:=hr1.cell (i:=4) (by simp)
  have p5:=hr1.cell (i:=5) (by simp)
  have p6:=hr1.cell (i:=6) (by simp)
  have p7:=hr1.cell (i:=7) (by simp)
  clear fin hst1 hs c1 f1 hb1 hr0 hr1
  simp[results,Tryz.results142,go_sem,p0,p1,p2,p3,p4,p5,p6,p7]
set_option maxHeartbeats 800000 in
theorem aO0(xs:List F)(w:World)(B:Nat)(a:Option Addr)(c:Nat)(hK:aBE w (·<B) xs a)(hB:B≤w.heap.size):
  Calls Tryz.prog 108 #[.slice a xs.length c] w fun e w'=>e=.returned (.slice (some ⟨w.heap.size,0,none⟩) xs.length xs.length)∧Below w.heap.size w w'∧w.heap.size<w'.heap.size∧
   aBE w' (fun b=>w.heap.size≤b∧b<w'.heap.size) xs (some ⟨w.heap.size,0,none⟩)∧NF w.heap.size w':=by
 have h3:=hK.1
 obtain⟨-,C,hA,hr⟩:=hK
 have hmk:=aFA (P:=Tryz.prog) 94 80 (.agg #[.string ByteArray.empty,.string ByteArray.empty,.bool false,.bool false,.bool false,.bool false,.bool false,.slice none 0 0]) #[.string ByteArray.empty,.string ByteArray.empty,.bool false,.bool false,.bool false,.bool false,.bool false,.slice none 0 0] rfl 8 64 Tryz.underlying94 aPF .i64 .i64 xs.length h3 (by omega)
 go_enter Tryz.func108,Tryz.ntmps108
 go_wp2_with fail
 go_loopw [4] (fun i wr=>∃(k:Nat) (G:Nat→Value),k≤xs.length∧i=.int .i64 k∧Below w.heap.size w wr∧wr.rowIs w.heap.size 80 (xs.length*8) G∧
   (∀i,i<k→FRep wr (fun b=>w.heap.size<b∧b<wr.heap.size) (fth xs i) (.agg #[G (i*8),G (i*8+1),G (i*8+2),G (i*8+3),G (i*8+4),G (i*8+5),G (i*8+6),G (i*8+7)]))∧NF w.heap.size wr) (fun i _=>xs.length- (intOf i).toNat)
 case atStart=>
  obtain⟨G,hG⟩:=aKZ w #[.string ByteArray.empty,.string ByteArray.empty,.bool false,.bool false,.bool false,.bool false,.bool false,.slice none 0 0] (xs.length*8) 80
  exact⟨0,G,Nat.zero_le _,rfl,aA2 _ _,hG,fun i hi=>by omega,(NF.new w).alloc _ _⟩
 case round=>
  obtain⟨k,G,hk,rfl,hbel,hrow,hreps,hnf⟩:=hrel
  have HNF:Hid (NF w.heap.size wr):=hnf
  clear hnf
  by_cases hlt:k<xs.length
  ·obtain⟨b,off,rfl,hbB,hc⟩:=hA (by omega)
   have hck:∀j,j<8→wr.cell? ⟨b,off+k*8+j,none⟩=some (C k j):=fun j hj=>(hbel.cell (p:=⟨b,off+k*8+j,none⟩) (by show b<_;omega)).trans (hc k hlt j hj)
   have hc0:wr.cell? ⟨b,off+k*8,none⟩=some (C k 0):=hck 0 (by omega)
   have hc1:wr.cell? ⟨b,off+k*8+1,none⟩=some (C k 1):=hck 1 (by omega)
   have hc2:wr.cell? ⟨b,off+k*8+2,none⟩=some (C k 2):=hck 2 (by omega)
   have hc3:wr.cell? ⟨b,off+k*8+3,none⟩=some (C k 3):=hck 3 (by omega)
   have hc4:wr.cell? ⟨b,off+k*8+4,none⟩=some (C k 4):=hck 4 (by omega)
   have hc5:wr.cell? ⟨b,off+k*8+5,none⟩=some (C k 5):=hck 5 (by omega)
   have hc6:wr.cell? ⟨b,off+k*8+6,none⟩=some (C k 6):=hck 6 (by omega)
   have hc7:wr.cell? ⟨b,off+k*8+7,none⟩=some (C k 7):=hck 7 (by omega)
   clear hck hc
   go_wp2_with (
    go_at_call 142
    refine(aPO (fth xs k) _ B _ ((hr k hlt).under (hbel.mono hB)) (by have:=hbel.size;omega)).mono ?_
    rintro e w1 ⟨na,nc,rfl,hby,hry,hnf1⟩
    have HN1:Hid (NF w.heap.size w1):=NF.call HNF.out hby hnf1
    clear hnf1
    have hrow1:=hrow.of_block (hby.block _ hrow.lt)
    have q0:w1.cell? ⟨w.heap.size,k*8,none⟩=some (G (k*8)):=hrow1.cell (by omega)
    have q1:w1.cell? ⟨w.heap.size,k*8+1,none⟩=some (G (k*8+1)):=hrow1.cell (by omega)
    have q2:w1.cell? ⟨w.heap.size,k*8+2,none⟩=some (G (k*8+2)):=hrow1.cell (by omega)
    have q3:w1.cell? ⟨w.heap.size,k*8+3,none⟩=some (G (k*8+3)):=hrow1.cell (by omega)
    have q4:w1.cell? ⟨w.heap.size,k*8+4,none⟩=some (G (k*8+4)):=hrow1.cell (by omega)
    have q5:w1.cell? ⟨w.heap.size,k*8+5,none⟩=some (G (k*8+5)):=hrow1.cell (by omega)
    have q6:w1.cell? ⟨w.heap.size,k*8+6,none⟩=some (G (k*8+6)):=hrow1.cell (by omega)
    have q7:w1.cell? ⟨w.heap.size,k*8+7,none⟩=some (G (k*8+7)):=hrow1.cell (by omega)
    have z0:∀j,w1.frozen? ⟨w.heap.size,j,none⟩=false:=fun j=>hrow1.frozen j)
   go_roundw
   case rel=>
    obtain⟨G',hG,hG1,hGF⟩:=aFP [.string (fth xs k).name,.string (fth xs k).of,.bool (fth xs k).list,.bool (fth xs k).must,.bool (fth xs k).far,.bool (fth xs k).hidden,.bool (fth xs k).shared,.slice na (fth xs k).needs.length nc] (k*8) hrow1
    have hs1:=hbel.size
    have hs2:=hby.size
    have hs3:=hrow.lt
    have g0:G' (k*8)=.string (fth xs k).name:=hG1 0 (by simp)
    have g1:G' (k*8+1)=.string (fth xs k).of:=hG1 1 (by simp)
    have g2:G' (k*8+2)=.bool (fth xs k).list:=hG1 2 (by simp)
    have g3:G' (k*8+3)=.bool (fth xs k).must:=hG1 3 (by simp)
    have g4:G' (k*8+4)=.bool (fth xs k).far:=hG1 4 (by simp)
    have g5:G' (k*8+5)=.bool (fth xs k).hidden:=hG1 5 (by simp)
    have g6:G' (k*8+6)=.bool (fth xs k).shared:=hG1 6 (by simp)
    have g7:G' (k*8+7)=.slice na (fth xs k).needs.length nc:=hG1 7 (by simp)
    have hpb:=aC6 w.heap.size
    have hps:=aCB w.heap.size [.string (fth xs k).name,.string (fth xs k).of,.bool (fth xs k).list,.bool (fth xs k).must,.bool (fth xs k).far,.bool (fth xs k).hidden,.bool (fth xs k).shared,.slice na (fth xs k).needs.length nc] w1 (k*8)
    refine⟨k+1,G',by omega,by go_num,aC4 (Nat.le_refl _) [.string (fth xs k).name,.string (fth xs k).of,.bool (fth xs k).list,.bool (fth xs k).must,.bool (fth xs k).far,.bool (fth xs k).hidden,.bool (fth xs k).shared,.slice na (fth xs k).needs.length nc] w1 (k*8) (hbel.trans (hby.mono hs1)),hG,fun i hi=>?_,fun a ha=>by simp only[World.frozen?_setCell];exact HN1.out a ha⟩
    by_cases e1:i=k
    ·rw[e1,g0,g1,g2,g3,g4,g5,g6,g7]
     refine(hry.mono fun b hb=>hpb b (by omega) [.string (fth xs k).name,.string (fth xs k).of,.bool (fth xs k).list,.bool (fth xs k).must,.bool (fth xs k).far,.bool (fth xs k).hidden,.bool (fth xs k).shared,.slice na (fth xs k).needs.length nc] w1 _).sub fun b hb=>⟨by omega,?_⟩
     show b<(puts w1 w.heap.size (k*8) [.string (fth xs k).name,.string (fth xs k).of,.bool (fth xs k).list,.bool (fth xs k).must,.bool (fth xs k).far,.bool (fth xs k).hidden,.bool (fth xs k).shared,.slice na (fth xs k).needs.length nc]).heap.size
     omega
    ·rw[hGF _ (by omega),hGF _ (by omega),hGF _ (by omega),hGF _ (by omega),hGF _ (by omega),hGF _ (by omega),hGF _ (by omega),hGF _ (by omega)]
     refine((hreps i (by omega)).mono fun b hb=>(hpb b (by omega) [.string (fth xs k).name,.string (fth xs k).of,.bool (fth xs k).list,.bool (fth xs k).must,.bool (fth xs k).far,.bool (fth xs k).hidden,.bool (fth xs k).shared,.slice na (fth xs k).needs.length nc] w1 _).trans (hby.block b hb.2)).sub fun b hb=>⟨hb.1,?_⟩
     show b<(puts w1 w.heap.size (k*8) [.string (fth xs k).name,.string (fth xs k).of,.bool (fth xs k).list,.bool (fth xs k).must,.bool (fth xs k).far,.bool (fth xs k).hidden,.bool (fth xs k).shared,.slice na (fth xs k).needs.length nc]).heap.size
     omega
   case measure=>simp[intOf];omega
  ·go_wp2_with fail
   go_ret
   have e:k=xs.length:=by omega
   subst e
   refine⟨rfl,hbel,hrow.lt,⟨h3,fun i j=>G (i*8+j),fun _=>⟨_,_,rfl,⟨Nat.le_refl _,hrow.lt⟩,fun i hi j hj=>?_⟩,fun i hi=>(hreps i hi).sub fun b hb=>⟨by omega,hb.2⟩⟩,HNF.out⟩
   have:=hrow.cell (i:=i*8+j) (by omega)
   simpa using this
set_option maxHeartbeats 800000 in
theorem aRC(t:T)(w:World)(B:Nat)(v:Value)(hR:TRep w (·<B) t v)(hB:B≤w.heap.size):
  Calls Tryz.prog 78 #[v] w fun e w'=>∃(fa:Option Addr) (fc:Nat),e=.returned (.agg #[.string t.name,.string t.key,.slice fa t.fields.length fc])∧Below w.heap.size w w'∧
   TRep w' (fun b=>w.heap.size≤b∧b<w'.heap.size) t (.agg #[.string t.name,.string t.key,.slice fa t.fields.length fc])∧NF w.heap.size w':=by
 obtain⟨na,nc,rfl,hs,hnc,hn,ho⟩:=hR
 obtain⟨name,key,fields⟩:=t
 simp only at hs hnc hn ho
 have hb3:∀o1 o2 o3,Below w.heap.size w (((w.alloc o1).alloc o2).alloc o3):=fun o1 o2 o3=>(((Below.refl _ _).alloc (Nat.le_refl _) _).alloc (by simp) _).alloc (by simp;omega) _
 go_enter Tryz.func78,Tryz.ntmps78
 go_wp2_with (
   go_at_call 108
   refine(aO0 fields _ B na nc (hs.under ((hb3 _ _ _).mono hB)) (by simp;omega)).mono ?_
   rintro e w1 ⟨rfl,hb1,hsz1,hst1,hnf1⟩
   have HN1:Hid (NF w.heap.size w1):=NF.call (NF.three w _ _ _ _ _ _) hb1 hnf1
   clear hnf1
   obtain⟨c1,f1⟩:=aU8 hb1
   simp at hsz1
   have hlt1:w.heap.size+1+1<w1.heap.size:=by omega)
 have hbw:Below w.heap.size w w1:=(hb3 _ _ _).trans (hb1.mono (by simp;omega))
 have fin:=aUC (w:=w) (w1:=w1) (t:=⟨name,key,fields⟩) (x:=.slice (some ⟨w.heap.size+1+1+1,0,none⟩) fields.length fields.length) (N:=w.heap.size) rfl hbw hsz1 (by simpa using hst1) hn ho [.string name,.string key,.slice (some ⟨w.heap.size+1+1+1,0,none⟩) fields.length fields.length]
 refine bodyPost_ret (v:=.agg #[.string name,.string key,.slice (some ⟨w.heap.size+1+1+1,0,none⟩) fields.length fields.length]) ?res rfl ⟨_,_,rfl,fin.1,fin.2,fun a ha=>by simp only[World.frozen?_setCell];exact HN1.out a ha⟩
 case res=>
  have hr0:∀o1 o3 c,((((w.alloc o1).alloc (.cells c 96)).alloc o3)).rowIs (w.heap.size+1) 96 c.size (fun i=>c[i]?.getD undef):=fun o1 o3 c=>by
   have h:=((w.alloc o1).rowIs_alloc c 96 (fun i=>c[i]?.getD undef) (fun i hi=>by simp[hi])).alloc o3
   simpa using h
  have hr1:=(hr0 _ _ _).of_block (hb1.block (w.heap.size+1) (by simp))
  have p0:=hr1.cell (i:=0) (by simp)
  have p1:=hr1.cell (i:=1) (by simp)
  have p2:=hr1.cell (i:=2) (by simp)
  clear fin hst1 hs c1 f1 hb1 hr0 hr1
  simp[results,Tryz.results78,go_sem,p0,p1,p2]
set_option maxHeartbeats 800000 in
theorem aPP(xs:List T)(w:World)(B:Nat)(a:Option Addr)(c:Nat)(hK:aCP w (·<B) xs a)(hB:B≤w.heap.size):
  Calls Tryz.prog 52 #[.slice a xs.length c] w fun e w'=>e=.returned (.slice (some ⟨w.heap.size,0,none⟩) xs.length xs.length)∧Below w.heap.size w w'∧w.heap.size<w'.heap.size∧
   aCP w' (fun b=>w.heap.size≤b∧b<w'.heap.size) xs (some ⟨w.heap.size,0,none⟩)∧NF w.heap.size w':=by
 have h3:=hK.1
 obtain⟨-,C,hA,hr⟩:=hK
 have hmk:=aFA (P:=Tryz.prog) 44 96 (.agg #[.string ByteArray.empty,.string ByteArray.empty,.slice none 0 0]) #[.string ByteArray.empty,.string ByteArray.empty,.slice none 0 0] rfl 3 56 Tryz.underlying44 aR2 .i64 .i64 xs.length h3 (by omega)
 go_enter Tryz.func52,Tryz.ntmps52
 go_wp2_with fail
 go_loopw [4] (fun i wr=>∃(k:Nat) (G:Nat→Value),k≤xs.length∧i=.int .i64 k∧Below w.heap.size w wr∧wr.rowIs w.heap.size 96 (xs.length*3) G∧
   (∀i,i<k→TRep wr (fun b=>w.heap.size<b∧b<wr.heap.size) (tth xs i) (.agg #[G (i*3),G (i*3+1),G (i*3+2)]))∧NF w.heap.size wr) (fun i _=>xs.length- (intOf i).toNat)
 case atStart=>
  obtain⟨G,hG⟩:=aKZ w #[.string ByteArray.empty,.string ByteArray.empty,.slice none 0 0] (xs.length*3) 96
  exact⟨0,G,Nat.zero_le _,rfl,aA2 _ _,hG,fun i hi=>by omega,(NF.new w).alloc _ _⟩
 case round=>
  obtain⟨k,G,hk,rfl,hbel,hrow,hreps,hnf⟩:=hrel
  have HNF:Hid (NF w.heap.size wr):=hnf
  clear hnf
  by_cases hlt:k<xs.length
  ·obtain⟨b,off,rfl,hbB,hc⟩:=hA (by omega)
   have hck:∀j,j<3→wr.cell? ⟨b,off+k*3+j,none⟩=some (C k j):=fun j hj=>(hbel.cell (p:=⟨b,off+k*3+j,none⟩) (by show b<_;omega)).trans (hc k hlt j hj)
   have hc0:wr.cell? ⟨b,off+k*3,none⟩=some (C k 0):=hck 0 (by omega)
   have hc1:wr.cell? ⟨b,off+k*3+1,none⟩=some (C k 1):=hck 1 (by omega)
   have hc2:wr.cell? ⟨b,off+k*3+2,none⟩=some (C k 2):=hck 2 (by omega)
   clear hck hc
   go_wp2_with (
    go_at_call 78
    refine(aRC (tth xs k) _ B _ ((hr k hlt).under (hbel.mono hB)) (by have:=hbel.size;omega)).mono ?_
    rintro e w1 ⟨na,nc,rfl,hby,hry,hnf1⟩
    have HN1:Hid (NF w.heap.size w1):=NF.call HNF.out hby hnf1
    clear hnf1
    have hrow1:=hrow.of_block (hby.block _ hrow.lt)
    have q0:w1.cell? ⟨w.heap.size,k*3,none⟩=some (G (k*3)):=hrow1.cell (by omega)
    have q1:w1.cell? ⟨w.heap.size,k*3+1,none⟩=some (G (k*3+1)):=hrow1.cell (by omega)
    have q2:w1.cell? ⟨w.heap.size,k*3+2,none⟩=some (G (k*3+2)):=hrow1.cell (by omega)
    have z0:∀j,w1.frozen? ⟨w.heap.size,j,none⟩=false:=fun j=>hrow1.frozen j)
   go_roundw
   case rel=>
    obtain⟨G',hG,hG1,hGF⟩:=aFP [.string (tth xs k).name,.string (tth xs k).key,.slice na (tth xs k).fields.length nc] (k*3) hrow1
    have hs1:=hbel.size
    have hs2:=hby.size
    have hs3:=hrow.lt
    have g0:G' (k*3)=.string (tth xs k).name:=hG1 0 (by simp)
    have g1:G' (k*3+1)=.string (tth xs k).key:=hG1 1 (by simp)
    have g2:G' (k*3+2)=.slice na (tth xs k).fields.length nc:=hG1 2 (by simp)
    have hpb:=aC6 w.heap.size
    have hps:=aCB w.heap.size [.string (tth xs k).name,.string (tth xs k).key,.slice na (tth xs k).fields.length nc] w1 (k*3)
    refine⟨k+1,G',by omega,by go_num,aC4 (Nat.le_refl _) [.string (tth xs k).name,.string (tth xs k).key,.slice na (tth xs k).fields.length nc] w1 (k*3) (hbel.trans (hby.mono hs1)),hG,fun i hi=>?_,fun a ha=>by simp only[World.frozen?_setCell];exact HN1.out a ha⟩
    by_cases e1:i=k
    ·rw[e1,g0,g1,g2]
     refine(hry.mono fun b hb=>hpb b (by omega) [.string (tth xs k).name,.string (tth xs k).key,.slice na (tth xs k).fields.length nc] w1 _).sub fun b hb=>⟨by omega,?_⟩
     show b<(puts w1 w.heap.size (k*3) [.string (tth xs k).name,.string (tth xs k).key,.slice na (tth xs k).fields.length nc]).heap.size
     omega
    ·rw[hGF _ (by omega),hGF _ (by omega),hGF _ (by omega)]
     refine((hreps i (by omega)).mono fun b hb=>(hpb b (by omega) [.string (tth xs k).name,.string (tth xs k).key,.slice na (tth xs k).fields.length nc] w1 _).trans (hby.block b hb.2)).sub fun b hb=>⟨hb.1,?_⟩
     show b<(puts w1 w.heap.size (k*3) [.string (tth xs k).name,.string (tth xs k).key,.slice na (tth xs k).fields.length nc]).heap.size
     omega
   case measure=>simp[intOf];omega
  ·go_wp2_with fail
   go_ret
   have e:k=xs.length:=by omega
   subst e
   refine⟨rfl,hbel,hrow.lt,⟨h3,fun i j=>G (i*3+j),fun _=>⟨_,_,rfl,⟨Nat.le_refl _,hrow.lt⟩,fun i hi j hj=>?_⟩,fun i hi=>(hreps i hi).sub fun b hb=>⟨by omega,hb.2⟩⟩,HNF.out⟩
   have:=hrow.cell (i:=i*3+j) (by omega)
   simpa using this
set_option maxHeartbeats 800000 in
theorem aR0(p:Pt)(w:World)(B:Nat)(v:Value)(hR:PRep w (·<B) p v)(hB:B≤w.heap.size):
  Calls Tryz.prog 28 #[v] w fun e w'=>∃(ta:Option Addr) (tc:Nat),e=.returned (.agg #[.string p.name,.slice ta p.types.length tc])∧Below w.heap.size w w'∧
   PRep w' (fun b=>w.heap.size≤b∧b<w'.heap.size) p (.agg #[.string p.name,.slice ta p.types.length tc])∧NF w.heap.size w':=by
 obtain⟨na,nc,rfl,hs,hnc,hn⟩:=hR
 obtain⟨name,types⟩:=p
 simp only at hs hnc hn
 have hb3:∀o1 o2 o3,Below w.heap.size w (((w.alloc o1).alloc o2).alloc o3):=fun o1 o2 o3=>(((Below.refl _ _).alloc (Nat.le_refl _) _).alloc (by simp) _).alloc (by simp;omega) _
 go_enter Tryz.func28,Tryz.ntmps28
 go_wp2_with (
   go_at_call 52
   refine(aPP types _ B na nc (hs.under ((hb3 _ _ _).mono hB)) (by simp;omega)).mono ?_
   rintro e w1 ⟨rfl,hb1,hsz1,hst1,hnf1⟩
   have HN1:Hid (NF w.heap.size w1):=NF.call (NF.three w _ _ _ _ _ _) hb1 hnf1
   clear hnf1
   obtain⟨c1,f1⟩:=aU8 hb1
   simp at hsz1
   have hlt1:w.heap.size+1+1<w1.heap.size:=by omega)
 have hbw:Below w.heap.size w w1:=(hb3 _ _ _).trans (hb1.mono (by simp;omega))
 have fin:=aUE (w:=w) (w1:=w1) (p:=⟨name,types⟩) (x:=.slice (some ⟨w.heap.size+1+1+1,0,none⟩) types.length types.length) (N:=w.heap.size) rfl hbw hsz1 (by simpa using hst1) hn [.string name,.slice (some ⟨w.heap.size+1+1+1,0,none⟩) types.length types.length]
 refine bodyPost_ret (v:=.agg #[.string name,.slice (some ⟨w.heap.size+1+1+1,0,none⟩) types.length types.length]) ?res rfl ⟨_,_,rfl,fin.1,fin.2,fun a ha=>by simp only[World.frozen?_setCell];exact HN1.out a ha⟩
 case res=>
  have hr0:∀o1 o3 c,((((w.alloc o1).alloc (.cells c 46)).alloc o3)).rowIs (w.heap.size+1) 46 c.size (fun i=>c[i]?.getD undef):=fun o1 o3 c=>by
   have h:=((w.alloc o1).rowIs_alloc c 46 (fun i=>c[i]?.getD undef) (fun i hi=>by simp[hi])).alloc o3
   simpa using h
  have hr1:=(hr0 _ _ _).of_block (hb1.block (w.heap.size+1) (by simp))
  have p0:=hr1.cell (i:=0) (by simp)
  have p1:=hr1.cell (i:=1) (by simp)
  clear fin hst1 hs c1 f1 hb1 hr0 hr1
  simp[results,Tryz.results28,go_sem,p0,p1]
theorem FRep.pieces{w:World}{P:Nat→Prop}{f:F}{c0 c1 c2 c3 c4 c5 c6 c7:Value}(h:FRep w P f (.agg #[c0,c1,c2,c3,c4,c5,c6,c7])):
  c0=.string f.name∧c1=.string f.of∧c2=.bool f.list∧c3=.bool f.must∧c4=.bool f.far∧c5=.bool f.hidden∧c6=.bool f.shared∧∃na nc,c7=.slice na f.needs.length nc∧Strs w P f.needs na∧f.needs.length≤nc∧f.name.size≤maxLen∧f.of.size≤maxLen:=by
 obtain⟨na,nc,hv,h2,h3,h4,h5,-⟩:=h
 simp only[Value.agg.injEq,Array.mk.injEq,List.cons.injEq,and_true] at hv
 obtain⟨e0,e1,e2,e3,e4,e5,e6,e7⟩:=hv
 exact⟨e0,e1,e2,e3,e4,e5,e6,na,nc,e7,h2,h3,h4,h5⟩
theorem TRep.pieces{w:World}{P:Nat→Prop}{t:T}{c0 c1 c2:Value}(h:TRep w P t (.agg #[c0,c1,c2])):
  ∃(fa:Option Addr) (fc:Nat),c0=.string t.name∧c1=.string t.key∧c2=.slice fa t.fields.length fc∧aBE w P t.fields fa∧t.fields.length≤fc∧t.name.size≤maxLen∧t.key.size≤maxLen:=by
 obtain⟨fa,fc,hv,h2,h3,h4,h5⟩:=h
 simp only[Value.agg.injEq,Array.mk.injEq,List.cons.injEq,and_true] at hv
 exact⟨fa,fc,hv.1,hv.2.1,hv.2.2,h2,h3,h4,h5⟩
theorem aGD(ns:List ByteArray)(a a':Option Addr)(c c':Nat)(w:World)(P P':Nat→Prop)(hS:Strs w P ns a)(hS':Strs w P' ns a'):
  Calls Tryz.prog 18 #[.slice a ns.length c,.slice a' ns.length c'] w fun e w'=>e=.returned (.bool true)∧Below w.heap.size w w':=by
 refine(aH2 ns a a' c c' w P P' hS hS').mono ?_
 rintro e w' ⟨rfl,n,rfl⟩
 exact⟨rfl,aAP (Below.refl _ _) n⟩
theorem aFV.of_rep{w:World}{lo hi:Nat}{ns:List ByteArray}{a:Option Addr}(h:Strs w (fun b=>lo≤b∧b<hi) ns a)(nf:NF lo w):aFV w lo hi ns.length a:=fun hn=>by
 obtain⟨b,off,e,hb,hc⟩:=h.1 (by intro e;simp[e] at hn)
 exact⟨b,off,e,hb.1,hb.2,fun i hi=>⟨⟨_,hc i hi⟩,nf _ hb.1⟩⟩
theorem WFs.of_rep{w:World}{lo hi:Nat}{fs:List F}{a:Option Addr}(h:aBE w (fun b=>lo≤b∧b<hi) fs a)(nf:NF lo w):WFs w lo hi fs a:=fun hn=>by
 obtain⟨-,C,hA,hr⟩:=h
 obtain⟨b,off,e,hb,hc⟩:=hA hn
 refine⟨b,off,e,hb.1,hb.2,fun i hi=>?_⟩
 obtain⟨e0,e1,e2,e3,e4,e5,e6,na,nc,e7,hS,-⟩:=(hr i hi).pieces
 have c:∀j,j<8→w.cell? ⟨b,off+i*8+j,none⟩=some (C i j):=fun j hj=>hc i hi j hj
 have c0:w.cell? ⟨b,off+i*8,none⟩=some (C i 0):=c 0 (by omega)
 exact⟨⟨⟨_,c0.trans (congrArg some e0)⟩,nf _ hb.1⟩,⟨⟨_,(c 1 (by omega)).trans (congrArg some e1)⟩,nf _ hb.1⟩,⟨⟨_,(c 2 (by omega)).trans (congrArg some e2)⟩,nf _ hb.1⟩,⟨⟨_,(c 3 (by omega)).trans (congrArg some e3)⟩,nf _ hb.1⟩,⟨⟨_,(c 4 (by omega)).trans (congrArg some e4)⟩,nf _ hb.1⟩,⟨⟨_,(c 5 (by omega)).trans (congrArg some e5)⟩,nf _ hb.1⟩,⟨⟨_,(c 6 (by omega)).trans (congrArg some e6)⟩,nf _ hb.1⟩,na,nc,(c 7 (by omega)).trans (congrArg some e7),aFV.of_rep hS nf⟩
theorem WTs.of_rep{w:World}{lo hi:Nat}{ts:List T}{a:Option Addr}(h:aCP w (fun b=>lo≤b∧b<hi) ts a)(nf:NF lo w):WTs w lo hi ts a:=fun hn=>by
 obtain⟨-,C,hA,hr⟩:=h
 obtain⟨b,off,e,hb,hc⟩:=hA hn
 refine⟨b,off,e,hb.1,hb.2,fun i hi=>?_⟩
 obtain⟨fa,fc,e0,e1,e2,hF,-⟩:=(hr i hi).pieces
 have c:∀j,j<3→w.cell? ⟨b,off+i*3+j,none⟩=some (C i j):=fun j hj=>hc i hi j hj
 have c0:w.cell? ⟨b,off+i*3,none⟩=some (C i 0):=c 0 (by omega)
 exact⟨⟨⟨_,c0.trans (congrArg some e0)⟩,nf _ hb.1⟩,⟨⟨_,(c 1 (by omega)).trans (congrArg some e1)⟩,nf _ hb.1⟩,fa,fc,(c 2 (by omega)).trans (congrArg some e2),WFs.of_rep hF nf⟩
def aQP(w:World)(n k:Nat)(a:Option Addr):Prop:=0<n→∃b off,a=some ⟨b,off,none⟩∧∀i,i<n→w.cell? ⟨b,off+i,none⟩=some (.string (aEI (k+i)))
theorem aQP.keep{w w':World}{n k:Nat}{a:Option Addr}(h:aQP w n k a)(hb:Below w.heap.size w w'):aQP w' n k a:=fun h0=>by
 obtain⟨b,off,e,hc⟩:=h h0
 exact⟨b,off,e,fun i hi=>(hb.cell (aCG (hc i hi))).trans (hc i hi)⟩
end Go.Proofs.YtcebpkeiaiiphaaGreatDoor
