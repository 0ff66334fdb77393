import Derived.Test.YtokmgbidmnanpaaGreatDoorQ1
import Derived.Test.YtokmgbidmnanpaaGreatDoorQ42
import Derived.Test.YtokmgbidmnanpaaGreatDoorQ24
import Derived.Test.YtokmgbidmnanpaaGreatDoorQ32
set_option linter.unusedSimpArgs false
set_option linter.unusedVariables false
namespace Go.Proofs.YtokmgbidmnanpaaGreatDoor
open Go.RowKit Go.Shelf Go.Maps
attribute [local go_sem] Oper.semAt_some
theorem aD6:qry.toList=[113,117,101,114,121]:=by rw[ByteArray.toList_eq];rfl
theorem aOL(p:Pt)(nm n:ByteArray):getF p nm n=fldF p nm n:=by
 unfold getF fldF
 split
 ·rfl
 ·rename_i h
  rw[aAY,if_neg h]
  rfl
theorem aTZ(p:Pt)(nm n:ByteArray):getB p nm n=fldB p nm n:=by
 unfold getB fldB
 by_cases h:0≤aCD p nm
 ·simp[h]
 ·have e:aAC T.zero n=-1:=by simp[aAC,T.zero,aAI]
  rw[aAY,if_neg h,e]
  simp[h]
def FltM(w:World)(o:Option (Way× Int))(e:Ending)(w':World):Prop:=∃a c,e=.returned (.agg #[.slice a (wayO o).length c,.int .i64 (aCE o)])∧Strs w' (fun b=>w.heap.size≤b∧b<w'.heap.size) (wayO o) a∧Below w.heap.size w w'
theorem aQM(p:Pt)(f:Nat)(ah:Way)(nm:ByteArray)(ks:List Se)(n:Nat)(h:chkM p (f+1) ah nm ks n=none):chkM p (f+1) ah nm ks (n+1)=if aBI p nm (sth ks n)≠0 then some (ah++[keyS (sth ks n)],aBI p nm (sth ks n)) else chkM p f (ah++[keyS (sth ks n)]) (fldF p nm (sth ks n).name).of (sth ks n).kids (sth ks n).kids.length:=by
 rw[chkM,h]
theorem aNI(p:Pt)(f:Nat)(ah:Way)(nm:ByteArray)(ks:List Se)(x:Way× Int)(n:Nat)(h:chkM p (f+1) ah nm ks n=some x):∀m,n≤m→chkM p (f+1) ah nm ks m=some x
 |0,hm=>by
  have e:n=0:=by omega
  subst e;exact h
 |m+1,hm=>by
  by_cases e:n=m+1
  ·rw[←e];exact h
  ·rw[chkM,aNI p f ah nm ks x n h m (by omega)]
theorem aEN(p:Pt):∀(f:Nat) (ah:Way) (nm:ByteArray) (ks:List Se) (n:Nat) (x:Way× Int),chkM p f ah nm ks n=some x→x.2≠0
 |0,ah,nm,ks,n,x,h=>by simp[chkM] at h
 |f+1,ah,nm,ks,0,x,h=>by simp[chkM] at h
 |f+1,ah,nm,ks,n+1,x,h=>by
  rw[chkM] at h
  cases hc:chkM p (f+1) ah nm ks n with
  |some y=>
   rw[hc] at h
   simp only[Option.some.injEq] at h
   subst h
   exact aEN p (f+1) ah nm ks n y hc
  |none=>
   rw[hc] at h
   simp only at h
   split at h
   ·rename_i hf
    simp only[Option.some.injEq] at h
    rw[←h];exact hf
   ·exact aEN p f _ _ _ _ x h
theorem fin2{w W:World}{b:Nat}{x y:Value}(a code:Value)(h1:W.heap[b]?=some (.cells #[x,y] 48 (0,0)))(h2:Below w.heap.size w W)(h3:w.heap.size≤b):Below w.heap.size w ((W.setCell ⟨b,0,none⟩ a).setCell ⟨b,1,none⟩ code)∧((W.setCell ⟨b,0,none⟩ a).setCell ⟨b,1,none⟩ code).heap[b]?=some (.cells #[a,code] 48 (0,0)):=by
 refine⟨(h2.setCell (p:=⟨b,0,none⟩) h3 _).setCell (p:=⟨b,1,none⟩) h3 _,?_⟩
 rw[aA9 (aA9 h1 0 a) 1 code]
 rfl
theorem aOQ(w:World)(P:Nat→Prop):Strs w P [] none:=⟨fun h=>absurd rfl h,fun i=>by simp[nth,maxLen],by simp⟩
set_option maxRecDepth 20000 in
set_option maxHeartbeats 1600000 in
theorem aNX(p:Pt)(c0 c1:Value):∀(f:Nat) (nm:ByteArray) (ah:Way) (ks:List Se) (w:World) (aa:Option Addr) (ac:Nat) (ka:Option Addr) (kc:Nat),FitS f ks→aAA w (·<w.heap.size) ks ka→Strs w (·<w.heap.size) ah aa→ah.length+f≤1000000000→PRep w (·<w.heap.size) p (.agg #[c0,c1])→
  Calls Tryz.prog 70 #[.agg #[c0,c1],.string nm,.slice ka ks.length kc,.slice aa ah.length ac] w fun e w'=>FltM w (chkM p f ah nm ks ks.length) e w':=by
 intro f
 induction f with
 |zero=>
  intro nm ah ks w aa ac ka kc hf hR hS hbd hP
  have e:ks=[]:=hf
  subst e
  clear hf hR hS hP
  have bB:=aA5 w (.cells #[c0,c1] 43) (.cells #[.slice none 0 0,.int .i64 0] 48)
  have zB:((w.alloc (.cells #[c0,c1] 43)).alloc (.cells #[.slice none 0 0,.int .i64 0] 48)).heap.size=w.heap.size+1+1:=by simp
  have nP:((w.alloc (.cells #[c0,c1] 43)).alloc (.cells #[.slice none 0 0,.int .i64 0] 48)).heap[w.heap.size]?=some (.cells #[c0,c1] 43 (0,0)):=by
   rw[(aA2 _ _).block _ (by simp)]
   exact aA3 _ _ rfl
  have nR:((w.alloc (.cells #[c0,c1] 43)).alloc (.cells #[.slice none 0 0,.int .i64 0] 48)).heap[w.heap.size+1]?=some (.cells #[.slice none 0 0,.int .i64 0] 48 (0,0)):=aA3 _ _ (by simp)
  go_enter Tryz.func70,Tryz.ntmps70
  go_wp2_with fail
  generalize (w.alloc (.cells #[c0,c1] 43)).alloc (.cells #[.slice none 0 0,.int .i64 0] 48)=Z at*
  have HZ:Hid (∀W',Below Z.heap.size Z W'→(W'.cell? ⟨w.heap.size,0,none⟩=some c0∧W'.cell? ⟨w.heap.size,1,none⟩=some c1)∧W'.heap[w.heap.size+1]?=some (.cells #[.slice none 0 0,.int .i64 0] 48 (0,0))∧Below w.heap.size w W'):=aA0 fun W' hW=>by
   have hp:=(hW.block _ (by omega)).trans nP
   exact⟨⟨(aA1 hp 0 (by simp)).1,(aA1 hp 1 (by simp)).1⟩,(hW.block _ (by omega)).trans nR,bB.trans (hW.mono (by omega))⟩
  clear nP nR bB
  go_loopw [9] (fun i wr=>i=.int .i64 0∧Below Z.heap.size Z wr) (fun i _=>0)
  case atStart=>exact⟨rfl,Below.refl _ _⟩
  case round=>
   obtain⟨rfl,hb⟩:=hrel
   obtain⟨w0,rfl⟩:∃x,x=wr:=⟨wr,rfl⟩
   obtain⟨-,hres,hbw⟩:=HZ.out w0 hb
   obtain⟨r0,f0⟩:=aA1 hres 0 (by simp)
   obtain⟨r1,f1⟩:=aA1 hres 1 (by simp)
   go_wp2_with fail
   obtain⟨hf1,hf2⟩:=fin2 (.slice none 0 0) (.int .i64 0) hres hbw (Nat.le_succ _)
   have cx0:=(aA1 hf2 0 (by simp)).1
   have cx1:=(aA1 hf2 1 (by simp)).1
   simp only[List.getElem_toArray,List.getElem_cons_zero,List.getElem_cons_succ] at cx0 cx1
   refine bodyPost_ret (v:=.agg #[.slice none 0 0,.int .i64 0]) (by simp[results,Tryz.results70,go_sem,cx0,cx1]) rfl ?_
   have e0:∀n,chkM p 0 ah nm ([]:List Se) n=none:=fun n=>by simp[chkM]
   rw[e0]
   exact⟨none,0,rfl,aOQ _ _,hf1⟩
 |succ f IH=>
  intro nm ah ks w aa ac ka kc hf hR hS hbd hP
  obtain⟨i9,hi9,hy0,hy1,hy2⟩:=info_parts aJW
  have h72:=hR.1
  have HR:=aA0 hR
  have HS:=aA0 hS
  have HP:=aA0 hP
  have HF:=aA0 hf
  clear hR hS hP hf
  have bB:=aA5 w (.cells #[c0,c1] 43) (.cells #[.slice none 0 0,.int .i64 0] 48)
  have zB:((w.alloc (.cells #[c0,c1] 43)).alloc (.cells #[.slice none 0 0,.int .i64 0] 48)).heap.size=w.heap.size+1+1:=by simp
  have nP:((w.alloc (.cells #[c0,c1] 43)).alloc (.cells #[.slice none 0 0,.int .i64 0] 48)).heap[w.heap.size]?=some (.cells #[c0,c1] 43 (0,0)):=by
   rw[(aA2 _ _).block _ (by simp)]
   exact aA3 _ _ rfl
  have nR:((w.alloc (.cells #[c0,c1] 43)).alloc (.cells #[.slice none 0 0,.int .i64 0] 48)).heap[w.heap.size+1]?=some (.cells #[.slice none 0 0,.int .i64 0] 48 (0,0)):=aA3 _ _ (by simp)
  go_enter Tryz.func70,Tryz.ntmps70
  go_wp2_with fail
  generalize (w.alloc (.cells #[c0,c1] 43)).alloc (.cells #[.slice none 0 0,.int .i64 0] 48)=Z at*
  have HZ:Hid (∀W',Below Z.heap.size Z W'→(W'.cell? ⟨w.heap.size,0,none⟩=some c0∧W'.cell? ⟨w.heap.size,1,none⟩=some c1)∧W'.heap[w.heap.size+1]?=some (.cells #[.slice none 0 0,.int .i64 0] 48 (0,0))∧Below w.heap.size w W'):=aA0 fun W' hW=>by
   have hp:=(hW.block _ (by omega)).trans nP
   exact⟨⟨(aA1 hp 0 (by simp)).1,(aA1 hp 1 (by simp)).1⟩,(hW.block _ (by omega)).trans nR,bB.trans (hW.mono (by omega))⟩
  clear nP nR bB
  go_loopw [9] (fun i wr=>∃k:Nat,k≤ks.length∧i=.int .i64 k∧Hid (chkM p (f+1) ah nm ks k=none)∧Below Z.heap.size Z wr) (fun i _=>ks.length- (intOf i).toNat)
  case atStart=>exact⟨0,Nat.zero_le _,rfl,aA0 (by simp[chkM]),Below.refl _ _⟩
  case round=>
   obtain⟨k,hk,rfl,HM,hb⟩:=hrel
   obtain⟨w0,rfl⟩:∃x,x=wr:=⟨wr,rfl⟩
   have zb:=hb.size
   obtain⟨-,hres,hbw⟩:=HZ.out w0 hb
   by_cases hlt:k<ks.length
   case neg=>
    have e:k=ks.length:=by omega
    subst e
    obtain⟨r0,f0⟩:=aA1 hres 0 (by simp)
    obtain⟨r1,f1⟩:=aA1 hres 1 (by simp)
    go_wp2_with fail
    obtain⟨hf1,hf2⟩:=fin2 (.slice none 0 0) (.int .i64 0) hres hbw (Nat.le_succ _)
    have cx0:=(aA1 hf2 0 (by simp)).1
    have cx1:=(aA1 hf2 1 (by simp)).1
    simp only[List.getElem_toArray,List.getElem_cons_zero,List.getElem_cons_succ] at cx0 cx1
    refine bodyPost_ret (v:=.agg #[.slice none 0 0,.int .i64 0]) (by simp[results,Tryz.results70,go_sem,cx0,cx1]) rfl ?_
    rw[HM.out]
    exact⟨none,0,rfl,aOQ _ _,hf1⟩
   have hki:(k:Int)<(ks.length:Int):=by omega
   obtain⟨-,C,hA,hr⟩:=HR.out.mono fun b hb2=>hbw.block b hb2
   obtain⟨kb,koff,rfl,hkB,hkc⟩:=hA (by omega)
   obtain⟨sa,sc,e0,e1,e2,e3,e4,hal,hnm,hKids⟩:=(hr k hlt).pieces
   have q0:w0.cell? ⟨kb,koff+k*5,none⟩=some (.string (sth ks k).al):=e0▸hkc k hlt 0 (by omega)
   have q1:w0.cell? ⟨kb,koff+k*5+1,none⟩=some (.string (sth ks k).name):=e1▸hkc k hlt 1 (by omega)
   have q2:w0.cell? ⟨kb,koff+k*5+2,none⟩=some (.bool (sth ks k).one):=e2▸hkc k hlt 2 (by omega)
   have q3:w0.cell? ⟨kb,koff+k*5+3,none⟩=some (.int .i64 (sth ks k).id):=e3▸hkc k hlt 3 (by omega)
   have q4:w0.cell? ⟨kb,koff+k*5+4,none⟩=some (.slice sa (sth ks k).kids.length sc):=e4▸hkc k hlt 4 (by omega)
   have hkm:(keyS (sth ks k)).size≤maxLen:=by unfold keyS;split<;>assumption
   have HKM:=aA0 hkm
   have HSU:=aA0 (aQM p f ah nm ks k HM.out)
   have HEN:=aA0 (fun x (hx:chkM p (f+1) ah nm ks (k+1)=some x)=>aNI p f ah nm ks x (k+1) hx ks.length hlt)
   have HKD:=aA0 (fun W (hW:Below w0.heap.size w0 W)=>(hKids.mono fun j hj=>hW.block j (Nat.lt_of_lt_of_le hj hbw.size)).sub fun j hj=>Nat.lt_of_lt_of_le hj (Nat.le_trans hbw.size hW.size))
   have HFK:=aA0 (HF.out k hlt)
   clear e0 e1 e2 e3 e4 hkc hr hA hKids hal hnm hkm
   generalize sth ks k=s at*
   have hS:=HS.out.mono fun b hb2=>hbw.block b hb2
   have bX0:=aA2 w0 (.cells #[.string s.al,.string s.name,.bool s.one,.int .i64 s.id,.slice sa s.kids.length sc] 56)
   have nB:=aA3 (w:=w0) #[.string s.al,.string s.name,.bool s.one,.int .i64 s.id,.slice sa s.kids.length sc] 56 rfl
   have zX:(w0.alloc (.cells #[.string s.al,.string s.name,.bool s.one,.int .i64 s.id,.slice sa s.kids.length sc] 56)).heap.size=w0.heap.size+1:=by simp
   go_wp2_with fail
   generalize w0.alloc (.cells #[.string s.al,.string s.name,.bool s.one,.int .i64 s.id,.slice sa s.kids.length sc] 56)=X at*
   have HBX:Hid (∀W',Below X.heap.size X W'→W'.cell? ⟨w0.heap.size,0,none⟩=some (.string s.al)∧W'.cell? ⟨w0.heap.size,1,none⟩=some (.string s.name)∧W'.cell? ⟨w0.heap.size,2,none⟩=some (.bool s.one)∧W'.cell? ⟨w0.heap.size,3,none⟩=some (.int .i64 s.id)∧W'.cell? ⟨w0.heap.size,4,none⟩=some (.slice sa s.kids.length sc)):=aA0 fun W' hW=>by
    have hb:=(hW.block _ (by omega)).trans nB
    exact⟨(aA1 hb 0 (by simp)).1,(aA1 hb 1 (by simp)).1,(aA1 hb 2 (by simp)).1,(aA1 hb 3 (by simp)).1,(aA1 hb 4 (by simp)).1⟩
   have HKY:=aA0 (fun W=>aD7 s W (.bool s.one) (.int .i64 s.id) (.slice sa s.kids.length sc))
   clear q0 q1 q2 q3 q4
   go_cut [11] (fun r wx=>∃g cap,r=.slice (some ⟨g,0,none⟩) (ah.length+1) cap∧Hid (Strs wx (fun b=>X.heap.size≤b∧b<wx.heap.size) (ah++[keyS s]) (some ⟨g,0,none⟩)∧ah.length+1≤cap)∧Below X.heap.size X wx)
   case first=>
    by_cases hah:ah=[]
    ·subst hah
     rcases aa with _| ad
     ·skip
      refine wp_region_held_drew (S:=(fun w'=>w'.cell? ⟨w0.heap.size,0,none⟩=some (.string s.al)∧w'.cell? ⟨w0.heap.size,1,none⟩=some (.string s.name)∧w'.cell? ⟨w0.heap.size,2,none⟩=some (.bool s.one)∧w'.cell? ⟨w0.heap.size,3,none⟩=some (.int .i64 s.id)∧w'.cell? ⟨w0.heap.size,4,none⟩=some (.slice sa s.kids.length sc))) (by kernel_rfl) (HBX.out _ (Below.refl _ _).drew) (fun hHeld=>?_)
      have bX:Below X.heap.size X X.drew:=(Below.refl _ _).drew
      generalize X.drew=wD at*
      have bD:=bX
      refine tkH 1 hHeld ?_
      refine tkH 3 hHeld ?_
      refine rdyH [0] ?_
      refine rcH (fun K hK=>?_) AllReadyH.nil
      go_simp
      have bE:=aA2 wD (.cells #[] 9)
      have nE:=aA3 (w:=wD) #[] 9 rfl
      have zE:(wD.alloc (.cells #[] 9)).heap.size=wD.heap.size+1:=by simp
      have bX:=bX.trans (bE.mono bX.size)
      refine hK.out _ _ (HBX.out _ bX) (fun hHeld=>?_)
      clear hK K
      try simp only[Act.put,List.setIfInBounds_toArray,List.set_cons_zero,List.set_cons_succ]
      generalize wD.alloc (.cells #[] 9)=wE at*
      refine rdyH [2] ?_
      refine rcH (fun K hK=>?_) AllReadyH.nil
      go_simp
      refine hK.out _ _ (HBX.out _ bX) (fun hHeld=>?_)
      clear hK K
      try simp only[Act.put,List.setIfInBounds_toArray,List.set_cons_zero,List.set_cons_succ]
      have hOV:wE.ownsRow X.heap.size 9 1 (.slice (some ⟨wD.heap.size,0,none⟩) 0 0) 0 ([]:List Value):=⟨rfl,Or.inr ⟨wD.heap.size,0,_,rfl,bD.size,nE,Nat.le_refl _,by unfold maxLen;omega,rfl,rfl⟩⟩
      have HOV:Hid (∀W',Below wE.heap.size wE W'→W'.ownsRow X.heap.size 9 1 (.slice (some ⟨wD.heap.size,0,none⟩) 0 0) 0 ([]:List Value)):=aA0 fun W' hW=>aBC hOV hW
      have bPP:Below wE.heap.size wE wE:=Below.refl _ _
      clear hOV
      refine rdyH [4] ?_
      refine rcH (fun K hK=>?_) AllReadyH.nil
      go_simp
      refine(HKY.out wE).mono ?_
      rintro e wK ⟨rfl,bK⟩
      have bX:=bX.trans (bK.mono bX.size)
      have bPP:=bPP.trans (bK.mono bPP.size)
      refine hK.out _ _ (HBX.out _ bX) (fun hHeld=>?_)
      clear hK K
      try simp only[Act.put,List.setIfInBounds_toArray,List.set_cons_zero,List.set_cons_succ]
      refine rdyH [5] ?_
      refine rcH (fun K hK=>?_) AllReadyH.nil
      go_simp
      have bA:=aA2 wK (.cells #[.string (keyS s)] 9)
      have nA:=aA3 (w:=wK) #[.string (keyS s)] 9 rfl
      have zA:wK.heap.size<(wK.alloc (.cells #[.string (keyS s)] 9)).heap.size:=by simp
      have bX:=bX.trans (bA.mono bX.size)
      have bPP:=bPP.trans (bA.mono bPP.size)
      refine hK.out _ _ (HBX.out _ bX) (fun hHeld=>?_)
      clear hK K
      try simp only[Act.put,List.setIfInBounds_toArray,List.set_cons_zero,List.set_cons_succ]
      generalize wK.alloc (.cells #[.string (keyS s)] 9)=wA at*
      refine rdyH [6] ?_
      refine rcH (fun K hK=>?_) AllReadyH.nil
      refine step_append_lies _ rfl (.tmp 28) (.tmp 31) 29 rfl X.heap.size 9 i9 (.string ByteArray.empty) 1 16 Tryz.underlying29 hi9 hy0 hy1 hy2 rfl (by decide) (.slice (some ⟨wD.heap.size,0,none⟩) 0 0) 0 ([]:List Value) rfl (HOV.out wA bPP) ⟨wK.heap.size,0,none⟩ 1 1 [.string (keyS s)] rfl rfl (World.news_of_block nA) (by intro u hu;simp at hu;subst hu;rfl) (by omega) (by unfold maxLen;omega) (by omega) bX.size wA.heap.size rfl ?_
      intro g cap wP hown hgrow hat hltP
      have bX:=bX.grown hgrow bX.size (fun k hk=>(HOV.out wA bPP).lt k hk |>.1)
      have HOW:=aA0 (And.intro hown hltP)
      clear hown hgrow hat
      refine hK.out _ _ (HBX.out _ bX) (fun hHeld=>?_)
      clear hK K
      try simp only[Act.put,List.setIfInBounds_toArray,List.set_cons_zero,List.set_cons_succ]
      refine tkH 7 hHeld ?_
      refine wpAnyH_done (by kernel_rfl) ?_ _
      have HWY:=aA0 (aOP (ah:=([]:Way)) (key:=keyS s) (cap:=cap) (g:=g) (base:=X.heap.size) (w:=wP) (by simpa using HOW.out.1) HKM.out hS.2.1 (by unfold maxLen;omega) HOW.out.2)
      go_wp2_with fail
      go_meet
      case rel=>exact⟨g,cap,by simp,HWY,bX⟩
     ·skip
      refine wp_region_held_drew (S:=(fun w'=>w'.cell? ⟨w0.heap.size,0,none⟩=some (.string s.al)∧w'.cell? ⟨w0.heap.size,1,none⟩=some (.string s.name)∧w'.cell? ⟨w0.heap.size,2,none⟩=some (.bool s.one)∧w'.cell? ⟨w0.heap.size,3,none⟩=some (.int .i64 s.id)∧w'.cell? ⟨w0.heap.size,4,none⟩=some (.slice sa s.kids.length sc))) (by kernel_rfl) (HBX.out _ (Below.refl _ _).drew) (fun hHeld=>?_)
      have bX:Below X.heap.size X X.drew:=(Below.refl _ _).drew
      generalize X.drew=wD at*
      have bD:=bX
      refine tkH 1 hHeld ?_
      refine tkH 3 hHeld ?_
      refine rdyH [0] ?_
      refine rcH (fun K hK=>?_) AllReadyH.nil
      go_simp
      have bE:=aA2 wD (.cells #[] 9)
      have nE:=aA3 (w:=wD) #[] 9 rfl
      have zE:(wD.alloc (.cells #[] 9)).heap.size=wD.heap.size+1:=by simp
      have bX:=bX.trans (bE.mono bX.size)
      refine hK.out _ _ (HBX.out _ bX) (fun hHeld=>?_)
      clear hK K
      try simp only[Act.put,List.setIfInBounds_toArray,List.set_cons_zero,List.set_cons_succ]
      generalize wD.alloc (.cells #[] 9)=wE at*
      refine rdyH [2] ?_
      refine rcH (fun K hK=>?_) AllReadyH.nil
      go_simp
      refine hK.out _ _ (HBX.out _ bX) (fun hHeld=>?_)
      clear hK K
      try simp only[Act.put,List.setIfInBounds_toArray,List.set_cons_zero,List.set_cons_succ]
      have hOV:wE.ownsRow X.heap.size 9 1 (.slice (some ⟨wD.heap.size,0,none⟩) 0 0) 0 ([]:List Value):=⟨rfl,Or.inr ⟨wD.heap.size,0,_,rfl,bD.size,nE,Nat.le_refl _,by unfold maxLen;omega,rfl,rfl⟩⟩
      have HOV:Hid (∀W',Below wE.heap.size wE W'→W'.ownsRow X.heap.size 9 1 (.slice (some ⟨wD.heap.size,0,none⟩) 0 0) 0 ([]:List Value)):=aA0 fun W' hW=>aBC hOV hW
      have bPP:Below wE.heap.size wE wE:=Below.refl _ _
      clear hOV
      refine rdyH [4] ?_
      refine rcH (fun K hK=>?_) AllReadyH.nil
      go_simp
      refine(HKY.out wE).mono ?_
      rintro e wK ⟨rfl,bK⟩
      have bX:=bX.trans (bK.mono bX.size)
      have bPP:=bPP.trans (bK.mono bPP.size)
      refine hK.out _ _ (HBX.out _ bX) (fun hHeld=>?_)
      clear hK K
      try simp only[Act.put,List.setIfInBounds_toArray,List.set_cons_zero,List.set_cons_succ]
      refine rdyH [5] ?_
      refine rcH (fun K hK=>?_) AllReadyH.nil
      go_simp
      have bA:=aA2 wK (.cells #[.string (keyS s)] 9)
      have nA:=aA3 (w:=wK) #[.string (keyS s)] 9 rfl
      have zA:wK.heap.size<(wK.alloc (.cells #[.string (keyS s)] 9)).heap.size:=by simp
      have bX:=bX.trans (bA.mono bX.size)
      have bPP:=bPP.trans (bA.mono bPP.size)
      refine hK.out _ _ (HBX.out _ bX) (fun hHeld=>?_)
      clear hK K
      try simp only[Act.put,List.setIfInBounds_toArray,List.set_cons_zero,List.set_cons_succ]
      generalize wK.alloc (.cells #[.string (keyS s)] 9)=wA at*
      refine rdyH [6] ?_
      refine rcH (fun K hK=>?_) AllReadyH.nil
      refine step_append_lies _ rfl (.tmp 28) (.tmp 31) 29 rfl X.heap.size 9 i9 (.string ByteArray.empty) 1 16 Tryz.underlying29 hi9 hy0 hy1 hy2 rfl (by decide) (.slice (some ⟨wD.heap.size,0,none⟩) 0 0) 0 ([]:List Value) rfl (HOV.out wA bPP) ⟨wK.heap.size,0,none⟩ 1 1 [.string (keyS s)] rfl rfl (World.news_of_block nA) (by intro u hu;simp at hu;subst hu;rfl) (by omega) (by unfold maxLen;omega) (by omega) bX.size wA.heap.size rfl ?_
      intro g cap wP hown hgrow hat hltP
      have bX:=bX.grown hgrow bX.size (fun k hk=>(HOV.out wA bPP).lt k hk |>.1)
      have HOW:=aA0 (And.intro hown hltP)
      clear hown hgrow hat
      refine hK.out _ _ (HBX.out _ bX) (fun hHeld=>?_)
      clear hK K
      try simp only[Act.put,List.setIfInBounds_toArray,List.set_cons_zero,List.set_cons_succ]
      refine tkH 7 hHeld ?_
      refine wpAnyH_done (by kernel_rfl) ?_ _
      have HWY:=aA0 (aOP (ah:=([]:Way)) (key:=keyS s) (cap:=cap) (g:=g) (base:=X.heap.size) (w:=wP) (by simpa using HOW.out.1) HKM.out hS.2.1 (by unfold maxLen;omega) HOW.out.2)
      go_wp2_with fail
      go_meet
      case rel=>exact⟨g,cap,by simp,HWY,bX⟩
    obtain⟨ab,aoff,rfl,hab,hac⟩:=hS.1 hah
    have hal1:1≤ah.length:=List.length_pos_iff.2 hah
    have HAW:=aA0 (fun W' (hW:Below X.heap.size X W') j u (hu:(ah.map Value.string)[j]?=some u)=>show W'.cell? ((⟨ab,aoff,none⟩:Addr).add j)=some u by
     obtain⟨hj,rfl⟩:=aNN ah j u hu
     rw[Addr.add_lit]
     exact(hW.cell (p:=⟨ab,aoff+j,none⟩) (by show ab<_;have:ab<w.heap.size:=hab;have:=hbw.size;omega)).trans ((bX0.cell (p:=⟨ab,aoff+j,none⟩) (by show ab<_;have:ab<w.heap.size:=hab;have:=hbw.size;omega)).trans (hac j hj)))
    refine wp_region_held_drew (S:=(fun w'=>w'.cell? ⟨w0.heap.size,0,none⟩=some (.string s.al)∧w'.cell? ⟨w0.heap.size,1,none⟩=some (.string s.name)∧w'.cell? ⟨w0.heap.size,2,none⟩=some (.bool s.one)∧w'.cell? ⟨w0.heap.size,3,none⟩=some (.int .i64 s.id)∧w'.cell? ⟨w0.heap.size,4,none⟩=some (.slice sa s.kids.length sc))) (by kernel_rfl) (HBX.out _ (Below.refl _ _).drew) (fun hHeld=>?_)
    have bX:Below X.heap.size X X.drew:=(Below.refl _ _).drew
    generalize X.drew=wD at*
    have bD:=bX
    refine tkH 1 hHeld ?_
    refine tkH 3 hHeld ?_
    refine rdyH [0] ?_
    refine rcH (fun K hK=>?_) AllReadyH.nil
    go_simp
    have bE:=aA2 wD (.cells #[] 9)
    have nE:=aA3 (w:=wD) #[] 9 rfl
    have zE:(wD.alloc (.cells #[] 9)).heap.size=wD.heap.size+1:=by simp
    have bX:=bX.trans (bE.mono bX.size)
    refine hK.out _ _ (HBX.out _ bX) (fun hHeld=>?_)
    clear hK K
    try simp only[Act.put,List.setIfInBounds_toArray,List.set_cons_zero,List.set_cons_succ]
    generalize wD.alloc (.cells #[] 9)=wE at*
    refine rdyH [2] ?_
    refine rcH (fun K hK=>?_) AllReadyH.nil
    refine step_append_lies _ rfl (.tmp 26) (.tmp 27) 29 rfl X.heap.size 9 i9 (.string ByteArray.empty) 1 16 Tryz.underlying29 hi9 hy0 hy1 hy2 rfl (by decide) (.slice (some ⟨wD.heap.size,0,none⟩) 0 0) 0 [] rfl ⟨rfl,Or.inr ⟨wD.heap.size,0,_,rfl,bD.size,nE,Nat.le_refl _,by unfold maxLen;omega,rfl,rfl⟩⟩ ⟨ab,aoff,none⟩ ah.length ac (ah.map Value.string) rfl (by simp) (fun j u hu=>HAW.out wE bX j u hu) (by intro u hu;obtain⟨t,-,rfl⟩:=List.mem_map.1 hu;rfl) (by omega) (by unfold maxLen;omega) (by omega) bX.size wE.heap.size rfl ?_
    intro g0 cap0 wQ hown0 hgrow0 hat0 hlt0
    have bXE:=bX
    have bX:=bX.grown hgrow0 bX.size (fun k hk=>by simp only[Value.ownBlock,Option.some.injEq] at hk;have:=bD.size;omega)
    have HOV:Hid (∀W',Below wQ.heap.size wQ W'→W'.ownsRow X.heap.size 9 1 (.slice (some ⟨g0,0,none⟩) ah.length cap0) ah.length (ah.map Value.string)):=aA0 fun W' hW=>aBC (by simpa using hown0) hW
    have bPP:Below wQ.heap.size wQ wQ:=Below.refl _ _
    clear hown0 hgrow0 hat0
    refine hK.out _ _ (HBX.out _ bX) (fun hHeld=>?_)
    clear hK K
    try simp only[Act.put,List.setIfInBounds_toArray,List.set_cons_zero,List.set_cons_succ]
    refine rdyH [4] ?_
    refine rcH (fun K hK=>?_) AllReadyH.nil
    go_simp
    refine(HKY.out wQ).mono ?_
    rintro e wK ⟨rfl,bK⟩
    have bX:=bX.trans (bK.mono bX.size)
    have bPP:=bPP.trans (bK.mono bPP.size)
    refine hK.out _ _ (HBX.out _ bX) (fun hHeld=>?_)
    clear hK K
    try simp only[Act.put,List.setIfInBounds_toArray,List.set_cons_zero,List.set_cons_succ]
    refine rdyH [5] ?_
    refine rcH (fun K hK=>?_) AllReadyH.nil
    go_simp
    have bA:=aA2 wK (.cells #[.string (keyS s)] 9)
    have nA:=aA3 (w:=wK) #[.string (keyS s)] 9 rfl
    have zA:wK.heap.size<(wK.alloc (.cells #[.string (keyS s)] 9)).heap.size:=by simp
    have bX:=bX.trans (bA.mono bX.size)
    have bPP:=bPP.trans (bA.mono bPP.size)
    refine hK.out _ _ (HBX.out _ bX) (fun hHeld=>?_)
    clear hK K
    try simp only[Act.put,List.setIfInBounds_toArray,List.set_cons_zero,List.set_cons_succ]
    generalize wK.alloc (.cells #[.string (keyS s)] 9)=wA at*
    refine rdyH [6] ?_
    refine rcH (fun K hK=>?_) AllReadyH.nil
    refine step_append_lies _ rfl (.tmp 28) (.tmp 31) 29 rfl X.heap.size 9 i9 (.string ByteArray.empty) 1 16 Tryz.underlying29 hi9 hy0 hy1 hy2 rfl (by decide) (.slice (some ⟨g0,0,none⟩) ah.length cap0) ah.length (ah.map Value.string) rfl (HOV.out wA bPP) ⟨wK.heap.size,0,none⟩ 1 1 [.string (keyS s)] rfl rfl (World.news_of_block nA) (by intro u hu;simp at hu;subst hu;rfl) (by omega) (by unfold maxLen;omega) (by omega) bX.size wA.heap.size rfl ?_
    intro g cap wP hown hgrow hat hltP
    have bX:=bX.grown hgrow bX.size (fun k hk=>(HOV.out wA bPP).lt k hk |>.1)
    have HOW:=aA0 (And.intro hown hltP)
    clear hown hgrow hat
    refine hK.out _ _ (HBX.out _ bX) (fun hHeld=>?_)
    clear hK K
    try simp only[Act.put,List.setIfInBounds_toArray,List.set_cons_zero,List.set_cons_succ]
    refine tkH 7 hHeld ?_
    refine wpAnyH_done (by kernel_rfl) ?_ _
    have HWY:=aA0 (aOP (ah:=ah) (key:=keyS s) (cap:=cap) (g:=g) (base:=X.heap.size) (w:=wP) (by simpa using HOW.out.1) HKM.out hS.2.1 (by unfold maxLen;omega) HOW.out.2)
    go_wp2_with fail
    go_meet
    case rel=>exact⟨g,cap,by simp,HWY,bX⟩
   case rest=>
   obtain⟨g,cap,rfl,HWY,bP⟩:=hcut
   obtain⟨wP,rfl⟩:∃x,x=wc:=⟨wc,rfl⟩
   have zP:=bP.size
   have b0P:Below w0.heap.size w0 wP:=bX0.trans (bP.mono (by omega))
   have bZP:Below Z.heap.size Z wP:=hb.trans (b0P.mono zb)
   obtain⟨⟨z0,z1⟩,-,hbwP⟩:=HZ.out wP bZP
   obtain⟨p0,p1,p2,p3,p4⟩:=HBX.out wP bP
   obtain⟨gF,hgF⟩:∃gF,gF=fldF p nm s.name:=⟨_,rfl⟩
   obtain⟨kb',hkb⟩:∃b,b=fldB p nm s.name:=⟨_,rfl⟩
   have HFC:Hid (aBI p nm s=aDJ nm s.one s.kids.length gF (kb'&&!gF.hidden)):=aA0 (by rw[hgF,hkb];rfl)
   have HGT:Hid (Calls Tryz.prog 74 #[.agg #[c0,c1],.string nm,.string s.name] wP fun e w'=>∃na nc,e=.returned (.tuple #[.agg #[.string gF.name,.string gF.of,.bool gF.list,.bool gF.must,.bool gF.far,.bool gF.hidden,.bool gF.shared,.slice na gF.needs.length nc],.bool kb'])∧Below wP.heap.size wP w'):=aA0 ((aIR p nm s.name wP w.heap.size _ (HP.out.under hbwP) hbwP.size).mono fun e w' ⟨n1,o1,l1,m1,f1,h1,s1,na,nc,he,hb,hf⟩=>by
    obtain⟨na',nc',hv',-⟩:=hf
    rw[he,hv',aOL,aTZ,←hgF,←hkb]
    exact⟨na',nc',rfl,hb⟩)
   have HSU:Hid (chkM p (f+1) ah nm ks (k+1)=if aBI p nm s≠0 then some (ah++[keyS s],aBI p nm s) else chkM p f (ah++[keyS s]) gF.of s.kids s.kids.length):=aA0 (by rw[hgF];exact HSU.out)
   clear hgF hkb
   obtain⟨gn,gof,gl,gm,gfr,gh,gs,gd⟩:=gF
   simp only at HFC HGT HSU
   go_wp2_with fail
   refine HGT.out.mono ?_
   rintro e w2 ⟨na,nc,rfl,hb2⟩
   have z2:=hb2.size
   have bP2:=bP.trans (hb2.mono bP.size)
   have bZ2:=bZP.trans (hb2.mono bZP.size)
   have b02:=b0P.trans (hb2.mono b0P.size)
   have HSC:=aA0 (fun W=>aAS gof W)
   have HZ2:=aA0 (fun o=>HZ.out (w2.alloc o) (bZ2.trans ((aA2 w2 o).mono bZ2.size)))
   have HX2:=aA0 (fun o=>HBX.out (w2.alloc o) (bP2.trans ((aA2 w2 o).mono bP2.size)))
   have HW2:=aA0 (fun(W:World) (hW:Below w2.heap.size w2 W)=>HWY.out.1.mono fun b hq=>(hW.block b (by omega)).trans (hb2.block b hq.2))
   have HFI:Hid (∀(o:Obj) (code:Int),Below w.heap.size w (((w2.alloc o).setCell ⟨w.heap.size+1,0,none⟩ (.slice (some ⟨g,0,none⟩) (ah.length+1) cap)).setCell ⟨w.heap.size+1,1,none⟩ (.int .i64 code))∧(((w2.alloc o).setCell ⟨w.heap.size+1,0,none⟩ (.slice (some ⟨g,0,none⟩) (ah.length+1) cap)).setCell ⟨w.heap.size+1,1,none⟩ (.int .i64 code)).heap[w.heap.size+1]?=some (.cells #[.slice (some ⟨g,0,none⟩) (ah.length+1) cap,.int .i64 code] 48 (0,0))∧
     Strs (((w2.alloc o).setCell ⟨w.heap.size+1,0,none⟩ (.slice (some ⟨g,0,none⟩) (ah.length+1) cap)).setCell ⟨w.heap.size+1,1,none⟩ (.int .i64 code)) (fun b=>w.heap.size≤b∧b<(((w2.alloc o).setCell ⟨w.heap.size+1,0,none⟩ (.slice (some ⟨g,0,none⟩) (ah.length+1) cap)).setCell ⟨w.heap.size+1,1,none⟩ (.int .i64 code)).heap.size) (ah++[keyS s]) (some ⟨g,0,none⟩)):=aA0 fun o code=>by
    obtain⟨-,h1,h2⟩:=HZ2.out o
    refine⟨(h2.setCell (p:=⟨w.heap.size+1,0,none⟩) (by show w.heap.size≤w.heap.size+1;omega) _).setCell (p:=⟨w.heap.size+1,1,none⟩) (by show w.heap.size≤w.heap.size+1;omega) _,by rw[aA9 (aA9 h1 0 _) 1 _];rfl,?_⟩
    refine((HW2.out _ (aA2 w2 o)).mono fun b hq=>?_).sub fun b hq=>?_
    ·rw[Below.heap_setCell _ _ _ _ (by show b≠w.heap.size+1;omega),Below.heap_setCell _ _ _ _ (by show b≠w.heap.size+1;omega)]
    ·simp only[aAZ,World.size_alloc];omega
   have HREC:=aA0 (fun(o:Obj)=>show Calls Tryz.prog 70 #[.agg #[c0,c1],.string gof,.slice sa s.kids.length sc,.slice (some ⟨g,0,none⟩) (ah.length+1) cap] (w2.alloc o) _ from by
    have h:=IH gof (ah++[keyS s]) s.kids (w2.alloc o) (some ⟨g,0,none⟩) cap sa sc HFK.out (HKD.out _ (b02.trans ((aA2 w2 o).mono b02.size))) ((HW2.out _ (aA2 w2 o)).sub fun b hq=>by show b<_;simp;omega) (by simp;omega) ((HP.out.under (HZ2.out o).2.2).sub fun b hq=>by have:b<w.heap.size:=hq;show b<_;simp;omega)
    simp only[List.length_append,List.length_singleton] at h
    exact h)
   have r0:=fun o=>(aA1 (HZ2.out o).2.1 0 (by simp)).1
   have f0:=fun o=>(aA1 (HZ2.out o).2.1 0 (by simp)).2
   have r1:=fun o=>(aA1 (HZ2.out o).2.1 1 (by simp)).1
   have f1:=fun o=>(aA1 (HZ2.out o).2.1 1 (by simp)).2
   have y0:=fun o=>(HZ2.out o).1.1
   have y1:=fun o=>(HZ2.out o).1.2
   have x2:=fun o=>(HX2.out o).2.2.1
   have x4:=fun o=>(HX2.out o).2.2.2.2
   clear z0 z1 p0 p1 p2 p3 p4 HGT
   generalize hkl:s.kids.length=kl at*
   have HKL:=aA0 hkl
   clear hkl
   generalize s.one=son at*
   generalize hlf:aAF gof=leaf at*
   have HLF:=aA0 hlf
   clear hlf
   cases kb'
   ·skip
    have HV:=aA0 (show aBI p nm s=1 by rw[HFC.out];simp[aDJ,aD6])
    have HRES:=aA0 (HEN.out _ (by rw[HSU.out,if_pos (by rw[HV.out];decide),HV.out]))
    clear HFC
    go_wp2_with (go_at_call 109;refine(HSC.out _).mono ?_;rintro e w' ⟨rfl,rfl⟩)
    obtain⟨hf1,hf2,hf3⟩:=HFI.out (.cells #[.string gn,.string gof,.bool gl,.bool gm,.bool gfr,.bool gh,.bool gs,.slice na gd.length nc] 54) 1
    have cx0:=(aA1 hf2 0 (by simp)).1
    have cx1:=(aA1 hf2 1 (by simp)).1
    simp only[List.getElem_toArray,List.getElem_cons_zero,List.getElem_cons_succ] at cx0 cx1
    refine bodyPost_ret (v:=.agg #[.slice (some ⟨g,0,none⟩) (ah.length+1) cap,.int .i64 1]) (by simp[results,Tryz.results70,go_sem,cx0,cx1]) rfl ?_
    rw[HRES.out]
    exact⟨some ⟨g,0,none⟩,cap,by simp[wayO,aCE],hf3,hf1⟩
   cases gh
   rotate_left
   ·skip
    have HV:=aA0 (show aBI p nm s=1 by rw[HFC.out];simp[aDJ,aD6])
    have HRES:=aA0 (HEN.out _ (by rw[HSU.out,if_pos (by rw[HV.out];decide),HV.out]))
    clear HFC
    go_wp2_with (go_at_call 109;refine(HSC.out _).mono ?_;rintro e w' ⟨rfl,rfl⟩)
    obtain⟨hf1,hf2,hf3⟩:=HFI.out (.cells #[.string gn,.string gof,.bool gl,.bool gm,.bool gfr,.bool true,.bool gs,.slice na gd.length nc] 54) 1
    have cx0:=(aA1 hf2 0 (by simp)).1
    have cx1:=(aA1 hf2 1 (by simp)).1
    simp only[List.getElem_toArray,List.getElem_cons_zero,List.getElem_cons_succ] at cx0 cx1
    refine bodyPost_ret (v:=.agg #[.slice (some ⟨g,0,none⟩) (ah.length+1) cap,.int .i64 1]) (by simp[results,Tryz.results70,go_sem,cx0,cx1]) rfl ?_
    rw[HRES.out]
    exact⟨some ⟨g,0,none⟩,cap,by simp[wayO,aCE],hf3,hf1⟩
   cases leaf
   ·by_cases hk0:kl=0
    ·subst hk0
     have HV:=aA0 (show aBI p nm s=3 by rw[HFC.out];simp[aDJ,aD6,HLF.out])
     have HRES:=aA0 (HEN.out _ (by rw[HSU.out,if_pos (by rw[HV.out];decide),HV.out]))
     clear HFC
     go_wp2_with (go_at_call 109;refine(HSC.out _).mono ?_;rintro e w' ⟨rfl,rfl⟩)
     obtain⟨hf1,hf2,hf3⟩:=HFI.out (.cells #[.string gn,.string gof,.bool gl,.bool gm,.bool gfr,.bool false,.bool gs,.slice na gd.length nc] 54) 3
     have cx0:=(aA1 hf2 0 (by simp)).1
     have cx1:=(aA1 hf2 1 (by simp)).1
     simp only[List.getElem_toArray,List.getElem_cons_zero,List.getElem_cons_succ] at cx0 cx1
     refine bodyPost_ret (v:=.agg #[.slice (some ⟨g,0,none⟩) (ah.length+1) cap,.int .i64 3]) (by simp[results,Tryz.results70,go_sem,cx0,cx1]) rfl ?_
     rw[HRES.out]
     exact⟨some ⟨g,0,none⟩,cap,by simp[wayO,aCE],hf3,hf1⟩
    have hk1:0<kl:=by omega
    have hk2:¬(kl:Int)≤0:=by omega
    have hk3:((kl:Int)==0)=false:=beq_eq_false_iff_ne.2 (by omega)
    cases son
    ·skip
     have HV:=aA0 (show aBI p nm s=0 by rw[HFC.out];simp[aDJ,aD6,HLF.out,hk0])
     have HNX:=aA0 (HSU.out.trans (if_neg (by rw[HV.out];simp)))
     clear HFC HSU
     generalize hR:chkM p f (ah++[keyS s]) gof s.kids kl=R at*
     have HRC:=aA0 hR
     clear hR
     rcases R with _| x
     ·go_wp2_with (first
       |(go_at_call 109;refine(HSC.out _).mono ?_;rintro e w' ⟨rfl,rfl⟩)
       |(
        go_at_call 70
        refine(HREC.out (.cells #[.string gn,.string gof,.bool gl,.bool gm,.bool gfr,.bool false,.bool gs,.slice na gd.length nc] 54)).mono ?_
        rintro e w4 ⟨a4,c4,rfl,-,hb4⟩
        simp only[wayO,aCE,List.length_nil]
        have bZ3:=bZ2.trans ((aA2 w2 (.cells #[.string gn,.string gof,.bool gl,.bool gm,.bool gfr,.bool false,.bool gs,.slice na gd.length nc] 54)).mono bZ2.size)
        have bZ4:=bZ3.trans (hb4.mono bZ3.size)))
      go_roundw
      case measure=>simp[intOf];omega
      case rel=>exact⟨k+1,by omega,by go_num,HNX,bZ4.trans ((aA2 w4 _).mono bZ4.size)⟩
     ·have hx0:¬x.2=0:=aEN _ _ _ _ _ _ _ HRC.out
      have HRES:=aA0 (HEN.out _ HNX.out)
      obtain⟨xw,xc⟩:=x
      have hx0:¬xc=0:=hx0
      have hx1:(xc==0)=false:=by simpa using hx0
      have hx2:(xc !=0)=true:=by simpa using hx0
      go_wp2_with (first
       |(go_at_call 109;refine(HSC.out _).mono ?_;rintro e w' ⟨rfl,rfl⟩)
       |(
        go_at_call 70
        refine(HREC.out (.cells #[.string gn,.string gof,.bool gl,.bool gm,.bool gfr,.bool false,.bool gs,.slice na gd.length nc] 54)).mono ?_
        rintro e w4 ⟨a4,c4,rfl,hS4,hb4⟩
        simp only[wayO,aCE]
        have hS4:Strs w4 (fun b=>w2.heap.size+1≤b∧b<w4.heap.size) xw a4:=by simpa[wayO] using hS4
        have bZ3:=bZ2.trans ((aA2 w2 (.cells #[.string gn,.string gof,.bool gl,.bool gm,.bool gfr,.bool false,.bool gs,.slice na gd.length nc] 54)).mono bZ2.size)
        have bZ4:=bZ3.trans (hb4.mono bZ3.size)
        have HZ4:=aA0 (fun o=>HZ.out (w4.alloc o) (bZ4.trans ((aA2 w4 o).mono bZ4.size)))
        have r40:=fun o=>(aA1 (HZ4.out o).2.1 0 (by simp)).1
        have f40:=fun o=>(aA1 (HZ4.out o).2.1 0 (by simp)).2
        have r41:=fun o=>(aA1 (HZ4.out o).2.1 1 (by simp)).1
        have f41:=fun o=>(aA1 (HZ4.out o).2.1 1 (by simp)).2))
      obtain⟨hf1,hf2⟩:=fin2 (.slice a4 xw.length c4) (.int .i64 xc) (HZ4.out (.cells #[.slice a4 xw.length c4,.int .i64 xc] 48)).2.1 (HZ4.out _).2.2 (Nat.le_succ _)
      have cx0:=(aA1 hf2 0 (by simp)).1
      have cx1:=(aA1 hf2 1 (by simp)).1
      simp only[List.getElem_toArray,List.getElem_cons_zero,List.getElem_cons_succ] at cx0 cx1
      refine bodyPost_ret (v:=.agg #[.slice a4 xw.length c4,.int .i64 xc]) (by simp[results,Tryz.results70,go_sem,cx0,cx1]) rfl ?_
      rw[HRES.out]
      refine⟨a4,c4,by simp[wayO,aCE],?_,hf1⟩
      have zZ4:=bZ4.size
      refine(hS4.mono fun b hq=>?_).sub fun b hq=>?_
      ·rw[Below.heap_setCell _ _ _ _ (by show b≠w.heap.size+1;omega),Below.heap_setCell _ _ _ _ (by show b≠w.heap.size+1;omega)]
       exact(aA2 w4 _).block b hq.2
      ·simp only[aAZ,World.size_alloc];omega
    cases gl
    ·cases hq:(nm.toList==[113,117,101,114,121])
     ·have hqq:¬nm.toList=[113,117,101,114,121]:=by simpa using hq
      have hq3:(nm.toList !=[113,117,101,114,121])=true:=by simp only[bne,hq];rfl
      have HV:=aA0 (show aBI p nm s=4 by rw[HFC.out];simp[aDJ,aD6,HLF.out,hk0,hqq])
      have HRES:=aA0 (HEN.out _ (by rw[HSU.out,if_pos (by rw[HV.out];decide),HV.out]))
      clear HFC
      go_wp2_with (go_at_call 109;refine(HSC.out _).mono ?_;rintro e w' ⟨rfl,rfl⟩)
      obtain⟨hf1,hf2,hf3⟩:=HFI.out (.cells #[.string gn,.string gof,.bool false,.bool gm,.bool gfr,.bool false,.bool gs,.slice na gd.length nc] 54) 4
      have cx0:=(aA1 hf2 0 (by simp)).1
      have cx1:=(aA1 hf2 1 (by simp)).1
      simp only[List.getElem_toArray,List.getElem_cons_zero,List.getElem_cons_succ] at cx0 cx1
      refine bodyPost_ret (v:=.agg #[.slice (some ⟨g,0,none⟩) (ah.length+1) cap,.int .i64 4]) (by simp[results,Tryz.results70,go_sem,cx0,cx1]) rfl ?_
      rw[HRES.out]
      exact⟨some ⟨g,0,none⟩,cap,by simp[wayO,aCE],hf3,hf1⟩
     ·have hqq:nm.toList=[113,117,101,114,121]:=by simpa using hq
      have hq3:(nm.toList !=[113,117,101,114,121])=false:=by simp only[bne,hq];rfl
      have HV:=aA0 (show aBI p nm s=0 by rw[HFC.out];simp[aDJ,aD6,HLF.out,hk0,hqq])
      have HNX:=aA0 (HSU.out.trans (if_neg (by rw[HV.out];simp)))
      clear HFC HSU
      generalize hR:chkM p f (ah++[keyS s]) gof s.kids kl=R at*
      have HRC:=aA0 hR
      clear hR
      rcases R with _| x
      ·go_wp2_with (first
        |(go_at_call 109;refine(HSC.out _).mono ?_;rintro e w' ⟨rfl,rfl⟩)
        |(
         go_at_call 70
         refine(HREC.out (.cells #[.string gn,.string gof,.bool false,.bool gm,.bool gfr,.bool false,.bool gs,.slice na gd.length nc] 54)).mono ?_
         rintro e w4 ⟨a4,c4,rfl,-,hb4⟩
         simp only[wayO,aCE,List.length_nil]
         have bZ3:=bZ2.trans ((aA2 w2 (.cells #[.string gn,.string gof,.bool false,.bool gm,.bool gfr,.bool false,.bool gs,.slice na gd.length nc] 54)).mono bZ2.size)
         have bZ4:=bZ3.trans (hb4.mono bZ3.size)))
       go_roundw
       case measure=>simp[intOf];omega
       case rel=>exact⟨k+1,by omega,by go_num,HNX,bZ4.trans ((aA2 w4 _).mono bZ4.size)⟩
      ·have hx0:¬x.2=0:=aEN _ _ _ _ _ _ _ HRC.out
       have HRES:=aA0 (HEN.out _ HNX.out)
       obtain⟨xw,xc⟩:=x
       have hx0:¬xc=0:=hx0
       have hx1:(xc==0)=false:=by simpa using hx0
       have hx2:(xc !=0)=true:=by simpa using hx0
       go_wp2_with (first
        |(go_at_call 109;refine(HSC.out _).mono ?_;rintro e w' ⟨rfl,rfl⟩)
        |(
         go_at_call 70
         refine(HREC.out (.cells #[.string gn,.string gof,.bool false,.bool gm,.bool gfr,.bool false,.bool gs,.slice na gd.length nc] 54)).mono ?_
         rintro e w4 ⟨a4,c4,rfl,hS4,hb4⟩
         simp only[wayO,aCE]
         have hS4:Strs w4 (fun b=>w2.heap.size+1≤b∧b<w4.heap.size) xw a4:=by simpa[wayO] using hS4
         have bZ3:=bZ2.trans ((aA2 w2 (.cells #[.string gn,.string gof,.bool false,.bool gm,.bool gfr,.bool false,.bool gs,.slice na gd.length nc] 54)).mono bZ2.size)
         have bZ4:=bZ3.trans (hb4.mono bZ3.size)
         have HZ4:=aA0 (fun o=>HZ.out (w4.alloc o) (bZ4.trans ((aA2 w4 o).mono bZ4.size)))
         have r40:=fun o=>(aA1 (HZ4.out o).2.1 0 (by simp)).1
         have f40:=fun o=>(aA1 (HZ4.out o).2.1 0 (by simp)).2
         have r41:=fun o=>(aA1 (HZ4.out o).2.1 1 (by simp)).1
         have f41:=fun o=>(aA1 (HZ4.out o).2.1 1 (by simp)).2))
       obtain⟨hf1,hf2⟩:=fin2 (.slice a4 xw.length c4) (.int .i64 xc) (HZ4.out (.cells #[.slice a4 xw.length c4,.int .i64 xc] 48)).2.1 (HZ4.out _).2.2 (Nat.le_succ _)
       have cx0:=(aA1 hf2 0 (by simp)).1
       have cx1:=(aA1 hf2 1 (by simp)).1
       simp only[List.getElem_toArray,List.getElem_cons_zero,List.getElem_cons_succ] at cx0 cx1
       refine bodyPost_ret (v:=.agg #[.slice a4 xw.length c4,.int .i64 xc]) (by simp[results,Tryz.results70,go_sem,cx0,cx1]) rfl ?_
       rw[HRES.out]
       refine⟨a4,c4,by simp[wayO,aCE],?_,hf1⟩
       have zZ4:=bZ4.size
       refine(hS4.mono fun b hq=>?_).sub fun b hq=>?_
       ·rw[Below.heap_setCell _ _ _ _ (by show b≠w.heap.size+1;omega),Below.heap_setCell _ _ _ _ (by show b≠w.heap.size+1;omega)]
        exact(aA2 w4 _).block b hq.2
       ·simp only[aAZ,World.size_alloc];omega
    ·skip
     have HV:=aA0 (show aBI p nm s=4 by rw[HFC.out];simp[aDJ,aD6,HLF.out,hk0])
     have HRES:=aA0 (HEN.out _ (by rw[HSU.out,if_pos (by rw[HV.out];decide),HV.out]))
     clear HFC
     go_wp2_with (go_at_call 109;refine(HSC.out _).mono ?_;rintro e w' ⟨rfl,rfl⟩)
     obtain⟨hf1,hf2,hf3⟩:=HFI.out (.cells #[.string gn,.string gof,.bool true,.bool gm,.bool gfr,.bool false,.bool gs,.slice na gd.length nc] 54) 4
     have cx0:=(aA1 hf2 0 (by simp)).1
     have cx1:=(aA1 hf2 1 (by simp)).1
     simp only[List.getElem_toArray,List.getElem_cons_zero,List.getElem_cons_succ] at cx0 cx1
     refine bodyPost_ret (v:=.agg #[.slice (some ⟨g,0,none⟩) (ah.length+1) cap,.int .i64 4]) (by simp[results,Tryz.results70,go_sem,cx0,cx1]) rfl ?_
     rw[HRES.out]
     exact⟨some ⟨g,0,none⟩,cap,by simp[wayO,aCE],hf3,hf1⟩
   ·by_cases hk0:kl=0
    ·subst hk0
     cases son
     ·skip
      have HV:=aA0 (show aBI p nm s=0 by rw[HFC.out];simp[aDJ,aD6,HLF.out])
      have HNX:=aA0 (HSU.out.trans (if_neg (by rw[HV.out];simp)))
      clear HFC HSU
      generalize hR:chkM p f (ah++[keyS s]) gof s.kids 0=R at*
      have HRC:=aA0 hR
      clear hR
      rcases R with _| x
      ·go_wp2_with (first
        |(go_at_call 109;refine(HSC.out _).mono ?_;rintro e w' ⟨rfl,rfl⟩)
        |(
         go_at_call 70
         refine(HREC.out (.cells #[.string gn,.string gof,.bool gl,.bool gm,.bool gfr,.bool false,.bool gs,.slice na gd.length nc] 54)).mono ?_
         rintro e w4 ⟨a4,c4,rfl,-,hb4⟩
         simp only[wayO,aCE,List.length_nil]
         have bZ3:=bZ2.trans ((aA2 w2 (.cells #[.string gn,.string gof,.bool gl,.bool gm,.bool gfr,.bool false,.bool gs,.slice na gd.length nc] 54)).mono bZ2.size)
         have bZ4:=bZ3.trans (hb4.mono bZ3.size)))
       go_roundw
       case measure=>simp[intOf];omega
       case rel=>exact⟨k+1,by omega,by go_num,HNX,bZ4.trans ((aA2 w4 _).mono bZ4.size)⟩
      ·have hx0:¬x.2=0:=aEN _ _ _ _ _ _ _ HRC.out
       have HRES:=aA0 (HEN.out _ HNX.out)
       obtain⟨xw,xc⟩:=x
       have hx0:¬xc=0:=hx0
       have hx1:(xc==0)=false:=by simpa using hx0
       have hx2:(xc !=0)=true:=by simpa using hx0
       go_wp2_with (first
        |(go_at_call 109;refine(HSC.out _).mono ?_;rintro e w' ⟨rfl,rfl⟩)
        |(
         go_at_call 70
         refine(HREC.out (.cells #[.string gn,.string gof,.bool gl,.bool gm,.bool gfr,.bool false,.bool gs,.slice na gd.length nc] 54)).mono ?_
         rintro e w4 ⟨a4,c4,rfl,hS4,hb4⟩
         simp only[wayO,aCE]
         have hS4:Strs w4 (fun b=>w2.heap.size+1≤b∧b<w4.heap.size) xw a4:=by simpa[wayO] using hS4
         have bZ3:=bZ2.trans ((aA2 w2 (.cells #[.string gn,.string gof,.bool gl,.bool gm,.bool gfr,.bool false,.bool gs,.slice na gd.length nc] 54)).mono bZ2.size)
         have bZ4:=bZ3.trans (hb4.mono bZ3.size)
         have HZ4:=aA0 (fun o=>HZ.out (w4.alloc o) (bZ4.trans ((aA2 w4 o).mono bZ4.size)))
         have r40:=fun o=>(aA1 (HZ4.out o).2.1 0 (by simp)).1
         have f40:=fun o=>(aA1 (HZ4.out o).2.1 0 (by simp)).2
         have r41:=fun o=>(aA1 (HZ4.out o).2.1 1 (by simp)).1
         have f41:=fun o=>(aA1 (HZ4.out o).2.1 1 (by simp)).2))
       obtain⟨hf1,hf2⟩:=fin2 (.slice a4 xw.length c4) (.int .i64 xc) (HZ4.out (.cells #[.slice a4 xw.length c4,.int .i64 xc] 48)).2.1 (HZ4.out _).2.2 (Nat.le_succ _)
       have cx0:=(aA1 hf2 0 (by simp)).1
       have cx1:=(aA1 hf2 1 (by simp)).1
       simp only[List.getElem_toArray,List.getElem_cons_zero,List.getElem_cons_succ] at cx0 cx1
       refine bodyPost_ret (v:=.agg #[.slice a4 xw.length c4,.int .i64 xc]) (by simp[results,Tryz.results70,go_sem,cx0,cx1]) rfl ?_
       rw[HRES.out]
       refine⟨a4,c4,by simp[wayO,aCE],?_,hf1⟩
       have zZ4:=bZ4.size
       refine(hS4.mono fun b hq=>?_).sub fun b hq=>?_
       ·rw[Below.heap_setCell _ _ _ _ (by show b≠w.heap.size+1;omega),Below.heap_setCell _ _ _ _ (by show b≠w.heap.size+1;omega)]
        exact(aA2 w4 _).block b hq.2
       ·simp only[aAZ,World.size_alloc];omega
     ·skip
      have HV:=aA0 (show aBI p nm s=4 by rw[HFC.out];simp[aDJ,aD6,HLF.out])
      have HRES:=aA0 (HEN.out _ (by rw[HSU.out,if_pos (by rw[HV.out];decide),HV.out]))
      clear HFC
      go_wp2_with (go_at_call 109;refine(HSC.out _).mono ?_;rintro e w' ⟨rfl,rfl⟩)
      obtain⟨hf1,hf2,hf3⟩:=HFI.out (.cells #[.string gn,.string gof,.bool gl,.bool gm,.bool gfr,.bool false,.bool gs,.slice na gd.length nc] 54) 4
      have cx0:=(aA1 hf2 0 (by simp)).1
      have cx1:=(aA1 hf2 1 (by simp)).1
      simp only[List.getElem_toArray,List.getElem_cons_zero,List.getElem_cons_succ] at cx0 cx1
      refine bodyPost_ret (v:=.agg #[.slice (some ⟨g,0,none⟩) (ah.length+1) cap,.int .i64 4]) (by simp[results,Tryz.results70,go_sem,cx0,cx1]) rfl ?_
      rw[HRES.out]
      exact⟨some ⟨g,0,none⟩,cap,by simp[wayO,aCE],hf3,hf1⟩
    have hk1:0<kl:=by omega
    have hk2:¬(kl:Int)≤0:=by omega
    have HV:=aA0 (show aBI p nm s=2 by rw[HFC.out];simp[aDJ,aD6,HLF.out,hk1])
    have HRES:=aA0 (HEN.out _ (by rw[HSU.out,if_pos (by rw[HV.out];decide),HV.out]))
    clear HFC
    go_wp2_with (go_at_call 109;refine(HSC.out _).mono ?_;rintro e w' ⟨rfl,rfl⟩)
    obtain⟨hf1,hf2,hf3⟩:=HFI.out (.cells #[.string gn,.string gof,.bool gl,.bool gm,.bool gfr,.bool false,.bool gs,.slice na gd.length nc] 54) 2
    have cx0:=(aA1 hf2 0 (by simp)).1
    have cx1:=(aA1 hf2 1 (by simp)).1
    simp only[List.getElem_toArray,List.getElem_cons_zero,List.getElem_cons_succ] at cx0 cx1
    refine bodyPost_ret (v:=.agg #[.slice (some ⟨g,0,none⟩) (ah.length+1) cap,.int .i64 2]) (by simp[results,Tryz.results70,go_sem,cx0,cx1]) rfl ?_
    rw[HRES.out]
    exact⟨some ⟨g,0,none⟩,cap,by simp[wayO,aCE],hf3,hf1⟩
end Go.Proofs.YtokmgbidmnanpaaGreatDoor
