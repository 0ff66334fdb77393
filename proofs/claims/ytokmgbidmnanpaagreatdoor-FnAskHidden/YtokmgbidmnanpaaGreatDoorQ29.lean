import Derived.Test.YtokmgbidmnanpaaGreatDoorQ1
import Derived.Test.YtokmgbidmnanpaaGreatDoorQ28
import Derived.Test.YtokmgbidmnanpaaGreatDoorQ4
import Derived.Test.YtokmgbidmnanpaaGreatDoorQ7
import Derived.Test.YtokmgbidmnanpaaGreatDoorQ19
import Derived.Test.YtokmgbidmnanpaaGreatDoorQ3
set_option linter.unusedSimpArgs false
set_option linter.unusedVariables false
namespace Go.Proofs.YtokmgbidmnanpaaGreatDoor
open Go.RowKit Go.Shelf
attribute [local go_sem] Oper.semAt_some
theorem aSN{w:World}{base base' e sz n:Nat}{v:Value}{xs:List Value}(h:w.ownsRow base e sz v n xs)(hb:base'≤base):w.ownsRow base' e sz v n xs:=by
 refine⟨h.1,h.2.imp id ?_⟩
 rintro⟨g,cap,cur,rfl,hg,hr⟩
 exact⟨g,cap,cur,rfl,by omega,hr⟩
theorem aBL.then{O O':Nat→Prop}{A B C:World}(h:aBL O A B)(ho:∀b,O' b→O b∨A.heap.size≤b)(k:aBL O' B C):aBL O A C:=⟨Nat.le_trans h.size k.size,fun b o hb h1 h2=>k.cells b o (fun h'=>(ho b h').elim hb (fun hs=>by have:=(Array.getElem?_eq_some_iff.1 h1).1;omega)) (h.cells b o hb h1 h2) h2⟩
theorem aOP{w:World}{base g cap:Nat}{ah:Way}{key:ByteArray}(h:w.ownsRow base 9 1 (.slice (some ⟨g,0,none⟩) (ah.length+1) cap) (ah.length+1) (ah.map Value.string++[.string key]))(hk:key.size≤maxLen)(hs:∀i,(nth ah i).size≤maxLen)(hl:ah.length+1≤maxLen)(hlt:g<w.heap.size):
  Strs w (fun b=>base≤b∧b<w.heap.size) (ah++[key]) (some ⟨g,0,none⟩)∧ah.length+1≤cap:=by
 have hb:base≤g∧ah.length+1≤cap:=by
  rcases h.2 with⟨h',_⟩| ⟨g',cap',cur,h',hb,_,hn,_⟩
  ·simp at h'
  ·simp only[Value.slice.injEq,Option.some.injEq,Addr.mk.injEq,and_true,true_and] at h'
   obtain⟨rfl,rfl⟩:=h'
   exact⟨hb,hn⟩
 have hnth:∀i,nth (ah++[key]) i=if i<ah.length then nth ah i else if i=ah.length then key else nth [] 0:=fun i=>by
  simp only[nth,List.getD_eq_getElem?_getD]
  by_cases h1:i<ah.length
  ·rw[if_pos h1,List.getElem?_append_left h1]
  ·rw[if_neg h1,List.getElem?_append_right (by omega)]
   by_cases h2:i=ah.length
   ·subst h2;simp
   ·rw[if_neg h2,List.getElem?_eq_none (by simp;omega)];rfl
 refine⟨⟨fun _=>⟨g,0,rfl,⟨hb.1,hlt⟩,fun i hi=>?_⟩,fun i=>?_,by simpa using hl⟩,hb.2⟩
 ·simp only[List.length_append,List.length_singleton] at hi
  have:=h.cellAt i (by omega)
  rw[Nat.zero_add,this]
  rw[hnth]
  by_cases h1:i<ah.length
  ·rw[if_pos h1,List.getElem?_append_left (by simpa using h1),List.getElem?_map]
   simp[nth,List.getD_eq_getElem?_getD,h1]
  ·rw[if_neg h1,if_pos (by omega),List.getElem?_append_right (by simp;omega)]
   simp[show i=ah.length by omega]
 ·rw[hnth]
  split
  ·exact hs i
  ·split
   ·exact hk
   ·unfold maxLen;decide
set_option maxRecDepth 20000 in
set_option maxHeartbeats 3200000 in
theorem aM9(XS:List (Way× Se))(l:Nat)(J:List (Way× Se)→(Nat→Prop)→World→Prop)(Jx:World→Prop)(lo:Nat)(hJg:∀pre O,aO0 (J pre O))(hJO:∀pre O A,J pre O A→∀b,O b→b<A.heap.size)
  (hY:∀(n:Nat) pre O x ar A,J pre O A→pre++[x]<+:XS→ArgN lo O x ar A→YieldAt Fence.wide n Tryz.prog l ar A fun e B=>∃go,e=.returned (.bool go)∧Told J Jx O pre x A go B):
  ∀(f n:Nat) (ah:Way) (ks:List Se) (pre:List (Way× Se)) (O:Nat→Prop) (W:World) (aa:Option Addr) (ac:Nat) (ka:Option Addr) (kc:Nat),FitS f ks→aEJ f ks→(∀a∈ ah,a.size≤1048576)→aAA W (·<lo) ks ka→lo≤W.heap.size→Strs W (fun b=>¬O b∧b<W.heap.size) ah aa→ah.length+f≤1000000000→J pre O W→(∀b,O b→lo≤b)→pre++aAU f ah ks ks.length<+:XS→
  CallsIn Fence.wide n Tryz.prog 80 #[.slice aa ah.length ac,.slice ka ks.length kc,.func (.yield l) #[] #[]] W (aV2 J Jx O lo (pre++aAU f ah ks ks.length) W):=by
 intro f
 induction f with
 |zero=>
  intro n ah ks pre O W aa ac ka kc hf hsm hah hR hlo hS hbd hJ hO hpx
  have e:ks=[]:=hf
  subst e
  have HJ:=aA0 hJ
  clear hJ
  refine callsIn_of_wp Tryz.func80 rfl trivial ?_ rfl
  simp only[Tryz.ntmps80,List.size_toArray,List.length_cons,List.length_nil,Nat.reduceAdd,Nat.reduceSub,Array.replicate_succ,Array.replicate_zero,List.push_toArray,List.append_toArray,List.nil_append,List.cons_append]
  gi_wp2
  gi_loopw [12] (fun i wr=>i=.int .i64 0∧wr=W) (fun _ _=>0)
  case atStart=>exact⟨rfl,rfl⟩
  case round=>
   obtain⟨rfl,rfl⟩:=hrel
   gi_wp2
   go_ret
   exact⟨true,rfl,Or.inl ⟨rfl,O,by simpa[aAU] using HJ.out,aBL.refl _ _,fun b hb=>Or.inl hb,hO⟩⟩
 |succ f IH=>
  intro n ah ks pre O W aa ac ka kc hf hsm hah hR hlo hS hbd hJ hO hpx
  have h72:=hR.1
  obtain⟨i0,hi,hz0,hz1,hz2⟩:=info_parts aJW
  refine callsIn_of_wp Tryz.func80 rfl trivial ?_ rfl
  simp only[Tryz.ntmps80,List.size_toArray,List.length_cons,List.length_nil,Nat.reduceAdd,Nat.reduceSub,Array.replicate_succ,Array.replicate_zero,List.push_toArray,List.append_toArray,List.nil_append,List.cons_append]
  gi_wp2
  gi_loopw [12] (fun i wr=>∃(k:Nat) (O':Nat→Prop),k≤ks.length∧i=.int .i64 k∧Hid (J (pre++aAU (f+1) ah ks k) O' wr)∧aBL O W wr∧Hid (∀b,O' b→O b∨W.heap.size≤b)∧Hid (∀b,O' b→lo≤b)∧Hid (Strs wr (fun b=>¬O' b∧b<wr.heap.size) ah aa)∧Hid (aAA wr (·<lo) ks ka)) (fun i _=>ks.length- (intOf i).toNat)
  case atStart=>exact⟨0,O,Nat.zero_le _,rfl,aA0 (by simpa[aAU] using hJ),aBL.refl _ _,aA0 fun b hb=>Or.inl hb,aA0 hO,aA0 hS,aA0 hR⟩
  case round=>
   clear hR hS hJ
   obtain⟨k,O',hk,rfl,HJ,hkeep,HOO,HOL,HS,HR⟩:=hrel
   obtain⟨w0,rfl⟩:∃x,x=wr:=⟨wr,rfl⟩
   have zk:=hkeep.size
   by_cases hlt:k<ks.length
   case neg=>
    have e:k=ks.length:=by omega
    subst e
    gi_wp2
    go_ret
    exact⟨true,rfl,Or.inl ⟨rfl,O',HJ.out,hkeep,HOO.out,HOL.out⟩⟩
   obtain⟨-,C,hA,hr⟩:=HR.out
   obtain⟨kb,koff,rfl,hkB,hkc⟩:=hA (by omega)
   have hki:(k:Int)<(ks.length:Int):=by omega
   obtain⟨sa,sc,e0,e1,e2,e3,e4,hal,hnm,hKids⟩:=(hr k hlt).pieces
   have q0:w0.cell? ⟨kb,koff+k*5,none⟩=some (.string (sth ks k).al):=e0▸hkc k hlt 0 (by omega)
   have q1:w0.cell? ⟨kb,koff+k*5+1,none⟩=some (.string (sth ks k).name):=e1▸hkc k hlt 1 (by omega)
   have q2:w0.cell? ⟨kb,koff+k*5+2,none⟩=some (.bool (sth ks k).one):=e2▸hkc k hlt 2 (by omega)
   have q3:w0.cell? ⟨kb,koff+k*5+3,none⟩=some (.int .i64 (sth ks k).id):=e3▸hkc k hlt 3 (by omega)
   have q4:w0.cell? ⟨kb,koff+k*5+4,none⟩=some (.slice sa (sth ks k).kids.length sc):=e4▸hkc k hlt 4 (by omega)
   have hfit:=hf k hlt
   have hsmk:=hsm k hlt
   have HPR:=aA0 (aBE f ah ks k)
   have HPX:Hid ((pre++aAU (f+1) ah ks k)++[(ah++[keyS (sth ks k)],sth ks k)]<+:XS∧(pre++aAU (f+1) ah ks k++[(ah++[keyS (sth ks k)],sth ks k)])++aAU f (ah++[keyS (sth ks k)]) (sth ks k).kids (sth ks k).kids.length<+:XS):=aA0 (by
    have h1:=aM3 f ah ks ks.length (k+1) hlt
    rw[aBE] at h1
    have h2:(pre++aAU (f+1) ah ks k++[(ah++[keyS (sth ks k)],sth ks k)])++aAU f (ah++[keyS (sth ks k)]) (sth ks k).kids (sth ks k).kids.length<+:XS:=by
     refine List.IsPrefix.trans ?_ hpx
     simp only[List.append_assoc,List.prefix_append_right_inj,List.singleton_append]
     exact h1
    exact⟨(List.prefix_append _ _).trans h2,h2⟩)
   have hkm:(keyS (sth ks k)).size≤maxLen:=by unfold keyS;split<;>assumption
   have hks:(keyS (sth ks k)).size≤1048576:=by
    unfold keyS
    split
    ·exact hsmk.2.1
    ·exact hsmk.1
   generalize sth ks k=s at*
   clear e0 e1 e2 e3 e4 hkc hr hA
   have hS:=HS.out
   have bB:=aA2 w0 (.cells #[.string s.al,.string s.name,.bool s.one,.int .i64 s.id,.slice sa s.kids.length sc] 56)
   have nB:=aA3 (w:=w0) #[.string s.al,.string s.name,.bool s.one,.int .i64 s.id,.slice sa s.kids.length sc] 56 rfl
   have zB:w0.heap.size<(w0.alloc (.cells #[.string s.al,.string s.name,.bool s.one,.int .i64 s.id,.slice sa s.kids.length sc] 56)).heap.size:=by simp
   gi_wp2
   generalize w0.alloc (.cells #[.string s.al,.string s.name,.bool s.one,.int .i64 s.id,.slice sa s.kids.length sc] 56)=X at*
   have HBX:Hid (∀W',Below X.heap.size X W'→W'.cell? ⟨w0.heap.size,0,none⟩=some (.string s.al)∧W'.cell? ⟨w0.heap.size,1,none⟩=some (.string s.name)∧W'.cell? ⟨w0.heap.size,2,none⟩=some (.bool s.one)∧W'.cell? ⟨w0.heap.size,3,none⟩=some (.int .i64 s.id)∧W'.cell? ⟨w0.heap.size,4,none⟩=some (.slice sa s.kids.length sc)):=aA0 fun W' hW=>by
    have hb:=(hW.block _ zB).trans nB
    exact⟨(aA1 hb 0 (by simp)).1,(aA1 hb 1 (by simp)).1,(aA1 hb 2 (by simp)).1,(aA1 hb 3 (by simp)).1,(aA1 hb 4 (by simp)).1⟩
   have HCT:=aA0 (fun W' (hW:Below X.heap.size X W')=>aLJ ah aa ac W' _ (aHB (aHB hS bB) hW) (by omega))
   clear q0 q1 q2 q3 q4
   refine wpIn_wide.2 ?_
   refine wp_region_held_drew (S:=(fun w'=>w'.cell? ⟨w0.heap.size,0,none⟩=some (.string s.al)∧w'.cell? ⟨w0.heap.size,1,none⟩=some (.string s.name)∧w'.cell? ⟨w0.heap.size,2,none⟩=some (.bool s.one)∧w'.cell? ⟨w0.heap.size,3,none⟩=some (.int .i64 s.id)∧w'.cell? ⟨w0.heap.size,4,none⟩=some (.slice sa s.kids.length sc))) (by kernel_rfl) (HBX.out _ (Below.refl _ _).drew) (fun hHeld=>?_)
   have bX:Below X.heap.size X X.drew:=(Below.refl _ _).drew
   generalize X.drew=wD at*
   refine tkH 0 hHeld ?_
   refine tkH 2 hHeld ?_
   refine rdyH [1] ?_
   refine rcH (fun K hK=>?_) AllReadyH.nil
   go_simp
   refine(HCT.out wD bX).mono ?_
   rintro e wC ⟨cv,rfl,hcv,bC⟩
   have HOV:Hid (∀W',Below wC.heap.size wC W'→W'.ownsRow X.heap.size 9 1 cv ah.length (ah.map Value.string)):=aA0 fun W' hW=>aSN (aBC hcv hW) bX.size
   have bX:=bX.trans (bC.mono bX.size)
   clear hcv
   refine hK.out _ _ (HBX.out _ bX) (fun hHeld=>?_)
   clear hK K
   try simp only[Act.put,List.setIfInBounds_toArray,List.set_cons_zero,List.set_cons_succ]
   refine rdyH [3] ?_
   refine rcH (fun K hK=>?_) AllReadyH.nil
   go_simp
   refine(aK3 s wC _ _ _).mono ?_
   rintro e wK ⟨rfl,bK⟩
   have bX:=bX.trans (bK.mono bX.size)
   refine hK.out _ _ (HBX.out _ bX) (fun hHeld=>?_)
   clear hK K
   try simp only[Act.put,List.setIfInBounds_toArray,List.set_cons_zero,List.set_cons_succ]
   refine rdyH [4] ?_
   refine rcH (fun K hK=>?_) AllReadyH.nil
   go_simp
   have bA:=aA2 wK (.cells #[.string (keyS s)] 9)
   have nA:=aA3 (w:=wK) #[.string (keyS s)] 9 rfl
   have zA:wK.heap.size<(wK.alloc (.cells #[.string (keyS s)] 9)).heap.size:=by simp
   have bX:=bX.trans (bA.mono bX.size)
   refine hK.out _ _ (HBX.out _ bX) (fun hHeld=>?_)
   clear hK K
   try simp only[Act.put,List.setIfInBounds_toArray,List.set_cons_zero,List.set_cons_succ]
   generalize wK.alloc (.cells #[.string (keyS s)] 9)=wA at*
   refine rdyH [5] ?_
   refine rcH (fun K hK=>?_) AllReadyH.nil
   refine step_append_lies _ rfl (.tmp 17) (.tmp 20) 29 rfl X.heap.size 9 i0 (.string ByteArray.empty) 1 16 Tryz.underlying29 hi hz0 hz1 hz2 rfl (by decide) cv ah.length (ah.map Value.string) rfl (HOV.out wA (bK.trans (bA.mono bK.size))) ⟨wK.heap.size,0,none⟩ 1 1 [.string (keyS s)] rfl rfl (World.news_of_block nA) (by intro u hu;simp at hu;subst hu;rfl) (by omega) (by unfold maxLen;omega) (by omega) bX.size wA.heap.size rfl ?_
   intro g cap wP hown hgrow hat hltP
   have bX:=bX.grown hgrow bX.size (fun k hk=>(HOV.out wA (bK.trans (bA.mono bK.size))).lt k hk |>.1)
   have HOW:=aA0 (And.intro hown hltP)
   clear hown hgrow hat
   refine hK.out _ _ (HBX.out _ bX) (fun hHeld=>?_)
   clear hK K
   try simp only[Act.put,List.setIfInBounds_toArray,List.set_cons_zero,List.set_cons_succ]
   refine tkH 6 hHeld ?_
   refine wpAnyH_done (by kernel_rfl) ?_ _
   have hah2:∀a∈ ah++[keyS s],a.size≤1048576:=fun a ha=>by
    rcases List.mem_append.1 ha with h| h
    ·exact hah a h
    ·rw[List.mem_singleton.1 h];exact hks
   have hWay:=aOP HOW.out.1 hkm hS.2.1 (by unfold maxLen;omega) HOW.out.2
   have b0P:Below w0.heap.size w0 wP:=bB.trans (bX.mono (by omega))
   have hJP:=hJg _ _ _ _ HJ.out b0P
   have hOw:∀b,O' b→b<w0.heap.size:=hJO _ _ _ HJ.out
   have hWay2:Strs wP (fun b=>¬O' b∧b<wP.heap.size) (ah++[keyS s]) (some ⟨g,0,none⟩):=hWay.1.sub fun b hb=>⟨fun h=>by have:=hOw b h;omega,hb.2⟩
   have hKidsP:=hKids.mono fun b hb=>b0P.block b (by omega)
   obtain⟨fn,tmps,assign,body,hy,hRr⟩:=hY (n- 1) _ O' (ah++[keyS s],s) #[.slice (some ⟨g,0,none⟩) (ah.length+1) cap,.agg #[.string s.al,.string s.name,.bool s.one,.int .i64 s.id,.slice sa s.kids.length sc]] wP hJP HPX.out.1 ⟨⟨_,cap,sa,sc,by simp,by simpa using hWay.2,hWay.1.sub fun b hb=>hb.2,hal,hnm,hah2,by simp⟩,g,cap,.agg #[.string s.al,.string s.name,.bool s.one,.int .i64 s.id,.slice sa s.kids.length sc],by simp,by have:=(HOW.out.1.lt g rfl).1;omega,HOW.out.2,(fun hOg=>by have:=hOw g hOg;have:=(HOW.out.1.lt g rfl).1;omega),fun j=>HOW.out.1.frozenAt j⟩
   have HRR:=aA0 hRr
   have HW2:=aA0 hWay2
   have HKP:=aA0 hKidsP
   have HLT:=aA0 hOw
   obtain⟨y0,y1,y2,y3,y4⟩:=HBX.out wP bX
   clear hRr hWay hWay2 hKidsP hJP hOw
   gi_wp2
   refine⟨(fun h=>by cases h),HRR.out.mono ?_⟩
   rintro e B ⟨go,rfl,hT⟩
   clear hy y0 y1 y2 y3 y4 HRR
   rcases hT with⟨rfl,O2,hJ2,hk2,ho2⟩| ⟨rfl,hjx⟩
   rotate_left
   ·have HJX:=aA0 hjx
    clear hjx
    gi_wp2
    refine⟨trivial,?_⟩
    gi_wp2
    go_ret
    exact⟨false,rfl,Or.inr ⟨rfl,HJX.out⟩⟩
   have zP:=b0P.size
   have zB2:=hk2.size
   have hnO:¬O' w0.heap.size:=fun h=>by have:=HLT.out _ h;omega
   have y4:B.cell? ⟨w0.heap.size,4,none⟩=some (.slice sa s.kids.length sc):=hk2.cell hnO (HBX.out wP bX).2.2.2.2
   have hOL2:∀b,O2 b→lo≤b:=fun b hb=>(ho2 b hb).elim (HOL.out b) (fun h=>by omega)
   have hIH:=IH (n- 1) (ah++[keyS s]) s.kids _ O2 B (some ⟨g,0,none⟩) cap sa sc hfit hsmk.2.2 hah2 (aJP HKP.out HOL.out hk2) (by omega) (aFN HW2.out hk2 ho2) (by simp;omega) hJ2 hOL2 HPX.out.2
   simp only[List.length_append,List.length_singleton] at hIH
   have HIH:=aA0 hIH
   have hKW:aBL O W B:=(hkeep.then HOO.out (aBL.below b0P)).then HOO.out hk2
   have hOW2:∀b,O2 b→O b∨W.heap.size≤b:=fun b hb=>(ho2 b hb).elim (HOO.out b) (fun h=>Or.inr (by omega))
   have HS2:=aA0 (aFN (aHB HS.out b0P) hk2 ho2)
   have HR2:=aA0 (aJP (HR.out.mono fun b hb=>b0P.block b (by omega)) HOL.out hk2)
   have HH:=aA0 (And.intro hKW (And.intro hOW2 hOL2))
   clear hIH hJ2 hKW hOW2 hOL2 ho2
   gi_wp2
   refine⟨trivial,(fun h=>by cases h),HIH.out.mono ?_⟩
   rintro e C ⟨go,rfl,hT⟩
   clear y4 HIH
   rcases hT with⟨rfl,O3,hJ3,hk3,ho3,hl3⟩| ⟨rfl,hjx⟩
   rotate_left
   ·have HJX:=aA0 hjx
    clear hjx
    gi_wp2
    go_ret
    exact⟨false,rfl,Or.inr ⟨rfl,HJX.out⟩⟩
   have HJ3:=aA0 (And.intro hJ3 (And.intro hk3 (And.intro ho3 hl3)))
   clear hJ3 ho3 hl3
   gi_wp2
   go_roundw
   case measure=>simp[intOf];omega
   case rel=>
    obtain⟨hJ3,-,ho3,hl3⟩:=HJ3.out
    obtain⟨hKW,hOW2,hOL2⟩:=HH.out
    refine⟨k+1,O3,by omega,by go_num,aA0 ?_,hKW.then hOW2 hk3,aA0 fun b hb=>(ho3 b hb).elim (hOW2 b) (fun h=>Or.inr (by have:=hKW.size;omega)),aA0 hl3,aA0 (aFN HS2.out hk3 ho3),aA0 (aJP HR2.out hOL2 hk3)⟩
    rw[HPR.out]
    simpa using hJ3
end Go.Proofs.YtokmgbidmnanpaaGreatDoor
namespace Go.Proofs.YtokmgbidmnanpaaGreatDoor
open Go.RowKit Go.Shelf
attribute [local go_sem] Oper.semAt_some
set_option maxHeartbeats 400000 in
theorem aKN(w:World)(ka:Option Addr)(kl kc:Nat):
  Calls Tryz.prog 42 #[.slice ka kl kc] w fun e w'=>e=.returned (.func (.func 79) #[] #[.pointer (some ⟨w.heap.size,0,none⟩)])∧w'=w.alloc (.cells #[.slice ka kl kc] 23):=by
 go_enter Tryz.func42,Tryz.ntmps42
 go_wp2_with fail
 go_ret
 exact⟨rfl,rfl⟩
set_option maxRecDepth 20000 in
set_option maxHeartbeats 800000 in
theorem aJ0(f:Nat)(ks:List Se)(l:Nat)(J:List (Way× Se)→(Nat→Prop)→World→Prop)(Jx:World→Prop)(lo:Nat)(hJg:∀pre O,aO0 (J pre O))(hJO:∀pre O A,J pre O A→∀b,O b→b<A.heap.size)
  (hY:∀(n:Nat) pre O x ar A,J pre O A→pre++[x]<+:aAU f [] ks ks.length→ArgN lo O x ar A→YieldAt Fence.wide n Tryz.prog l ar A fun e B=>∃go,e=.returned (.bool go)∧Told J Jx O pre x A go B)
  (n:Nat) (O:Nat→Prop) (W:World) (ka:Option Addr) (kc sb:Nat) (hf:FitS f ks) (hsm:aEJ f ks) (hR:aAA W (·<lo) ks ka) (hlo:lo≤W.heap.size) (hbd:f≤1000000000) (hJ:J [] O W) (hO:∀b,O b→lo≤b) (hs:W.cell? ⟨sb,0,none⟩=some (.slice ka ks.length kc)):
  CallsIn Fence.wide n Tryz.prog 79 #[.func (.yield l) #[] #[],.pointer (some ⟨sb,0,none⟩)] W fun e W'=>(∃v,e=.returned v)∧((∃O',J (aAU f [] ks ks.length) O' W')∨Jx W'):=by
 have hT:=aM9 (aAU f [] ks ks.length) l J Jx lo hJg hJO hY f (n- 1) [] ks [] O W none 0 ka kc hf hsm (fun a ha=>by simp at ha) hR hlo ⟨fun h=>absurd rfl h,fun i=>by simp[nth],by unfold maxLen;simp⟩ (by simpa using hbd) hJ hO (by simp)
 have HT:=aA0 hT
 clear hT
 refine callsIn_of_wp Tryz.func79 rfl trivial ?_ rfl
 simp only[Tryz.ntmps79,List.size_toArray,List.length_cons,List.length_nil,Nat.reduceAdd,Nat.reduceSub,Array.replicate_succ,Array.replicate_zero,List.push_toArray,List.append_toArray,List.nil_append,List.cons_append]
 gi_wp2
 refine⟨trivial,(fun h=>by cases h),HT.out.mono ?_⟩
 rintro e C ⟨go,rfl,hT⟩
 have HC:Hid ((∃O',J (aAU f [] ks ks.length) O' C)∨Jx C):=aA0 (by
  rcases hT with⟨-,O3,hJ3,-⟩| ⟨-,hjx⟩
  ·exact Or.inl ⟨O3,by simpa using hJ3⟩
  ·exact Or.inr hjx)
 clear hT
 gi_wp2
 refine bodyPost_end (v:=.tuple #[]) ?res rfl ⟨⟨_,rfl⟩,HC.out⟩
 case res=>simp[results,Tryz.results79,go_sem]
theorem aNZ(f:Nat)(ks:List Se)(l:Nat)(J:List (Way× Se)→(Nat→Prop)→World→Prop)(Jx:World→Prop)(lo:Nat)(hJg:∀pre O,aO0 (J pre O))(hJO:∀pre O A,J pre O A→∀b,O b→b<A.heap.size)
  (hY:∀(n:Nat) pre O x ar A,J pre O A→pre++[x]<+:aAU f [] ks ks.length→ArgT x ar A→YieldAt Fence.wide n Tryz.prog l ar A fun e B=>∃go,e=.returned (.bool go)∧Told J Jx O pre x A go B)
  (n:Nat) (O:Nat→Prop) (W:World) (ka:Option Addr) (kc sb:Nat) (hf:FitS f ks) (hsm:aEJ f ks) (hR:aAA W (·<lo) ks ka) (hlo:lo≤W.heap.size) (hbd:f≤1000000000) (hJ:J [] O W) (hO:∀b,O b→lo≤b) (hs:W.cell? ⟨sb,0,none⟩=some (.slice ka ks.length kc)):
  CallsIn Fence.wide n Tryz.prog 79 #[.func (.yield l) #[] #[],.pointer (some ⟨sb,0,none⟩)] W fun e W'=>(∃v,e=.returned v)∧((∃O',J (aAU f [] ks ks.length) O' W')∨Jx W'):=
 aJ0 f ks l J Jx lo hJg hJO (fun n pre O x ar A h1 h2 h3=>hY n pre O x ar A h1 h2 h3.1) n O W ka kc sb hf hsm hR hlo hbd hJ hO hs
end Go.Proofs.YtokmgbidmnanpaaGreatDoor
namespace Go.Proofs.YtokmgbidmnanpaaGreatDoor
open Go.RowKit Go.Shelf
theorem aH4:∀way:Way,Lib.join (way.map (·.data.toList)) [47]=aCA way
 |[]=>rfl
 |[a]=>by simp[Lib.join,List.intercalate,aCA,ByteArray.toList_eq]
 |a::b::l=>by
  have ih:=aH4 (b::l)
  rw[aCA,←ih,ByteArray.toList_eq]
  simp[Lib.join,List.intercalate]
theorem aNE:∀way:Way,(∀a∈ way,a.size≤1048576)→(aCA way).length≤1048577*way.length
 |[],_=>by simp[aCA]
 |[a],h=>by
  have:=h a (by simp)
  rw[aCA,aC3];simp;omega
 |a::b::l,h=>by
  have h1:=h a (by simp)
  have ih:=aNE (b::l) (fun x hx=>h x (List.mem_cons_of_mem _ hx))
  rw[aCA,List.length_append,List.length_cons,aC3]
  simp only[List.length_cons] at ih ⊢
  omega
set_option maxHeartbeats 400000 in
theorem aO8(way:Way)(wa:Option Addr)(wc:Nat)(w:World)(hS:Strs w (·<w.heap.size) way wa)(hne:way≠[])(hc:way.length≤wc)(hl:way.length≤1000)(hsm:∀a∈ way,a.size≤1048576):
  Calls Tryz.prog 51 #[.slice wa way.length wc] w fun e w'=>(∃t:ByteArray,e=.returned (.string t)∧t.toList=aCA way∧t.size≤1048577000)∧Below w.heap.size w w':=by
 obtain⟨b,off,rfl,hb,hcl⟩:=hS.1 hne
 have hj:=aNE way hsm
 have HJ:=aA0 (aPA b off wc way ⟨#[47]⟩ w (fun j x hx=>by
  obtain⟨hj,rfl⟩:=List.getElem?_eq_some_iff.1 hx
  have h3:=hcl j hj
  have e3:nth way j=way[j]:=by unfold nth;rw[List.getD_eq_getElem?_getD,List.getElem?_eq_getElem hj];rfl
  rw[e3] at h3
  exact h3) hb (by omega) hc (by show(Lib.join (way.map (·.data.toList)) [47]).length≤_;rw[aH4];omega))
 go_enter Tryz.func51,Tryz.ntmps51
 go_wp2_with fail
 refine HJ.out.mono ?_
 rintro e w1 ⟨rfl,hb1⟩
 have HB:=aA0 hb1
 clear hb1
 go_wp2_with fail
 go_ret
 refine⟨⟨_,rfl,?_,?_⟩,HB.out⟩
 ·rw[ByteArray.toList_eq]
  exact aH4 way
 ·show(Lib.join (way.map (·.data.toList)) [47]).toArray.size≤_
  rw[aH4];simp;omega
end Go.Proofs.YtokmgbidmnanpaaGreatDoor
namespace Go.Proofs.YtokmgbidmnanpaaGreatDoor
open Go.RowKit Go.Shelf
attribute [local go_sem] Oper.semAt_some
theorem aEC{n m:Nat}{P:Program}{l:Nat}{args:Array Value}{W:World}{R:Ending→World→Prop}(h:YieldAt Fence.wide n P l args W R):YieldAt Fence.wide m P l args W R:=by
 obtain⟨fn,tmps,assign,body,h1,h2,h3⟩:=h
 exact⟨fn,tmps,assign,body,h1,h2,fun c cs _=>h3 c cs (room_wide _)⟩
def Gat(base bw:Nat)(ts:List ByteArray)(wv:Value)(A:World):Prop:=
 A.heap[bw]?=some (.cells #[wv] 29 (0,0))∧A.ownsRow base 9 1 wv ts.length (ts.map Value.string)∧wv.ownBlock≠some bw
theorem Gat.of{base bw:Nat}{ts:List ByteArray}{wv:Value}{A B:World}(h:Gat base bw ts wv A)(e:∀(k:Nat) (c:Array Value) (t:TypeId),(k=bw∨wv.ownBlock=some k)→A.heap[k]?=some (Obj.cells c t (0,0))→B.heap[k]?=some (Obj.cells c t (0,0))):Gat base bw ts wv B:=by
 obtain⟨h1,h2,h3⟩:=h
 refine⟨e _ _ _ (Or.inl rfl) h1,⟨h2.1,?_⟩,h3⟩
 rcases h2.2 with hn| ⟨g,cap,cur,hv,hb,hh,r⟩
 ·exact Or.inl hn
 ·exact Or.inr ⟨g,cap,cur,hv,hb,e _ _ _ (Or.inr (by rw[hv];rfl)) hh,r⟩
theorem Gat.still{base bw:Nat}{ts:List ByteArray}{wv:Value}{A:World}(h:Gat base bw ts wv A){l:Nat}{o o':Obj}(hl:A.heap[l]?=some o)(ho:o.isCells=false):Gat base bw ts wv (A.putObj l o'):=
 h.of fun k c t _ hk=>by
  have hne:k≠l:=by intro e;rw[e,hl] at hk;cases hk;cases ho
  exact(World.putObj_heap_other hne).trans hk
theorem Gat.grow{base bw:Nat}{ts:List ByteArray}{wv:Value}{A B:World}(h:Gat base bw ts wv A)(hb:Below A.heap.size A B):Gat base bw ts wv B:=
 h.of fun k c t _ hk=>(hb.block k (Array.getElem?_eq_some_iff.1 hk).1).trans hk
theorem Gat.strs{base bw:Nat}{ts:List ByteArray}{wv:Value}{A:World}(h:Gat base bw ts wv A)(hs:∀t∈ ts,t.size≤maxLen)(hl:ts.length≤1000000):∃a c,wv=.slice a ts.length c∧Strs A (fun _=>True) ts a:=by
 obtain⟨-,h2,-⟩:=h
 have hsz:∀i,(nth ts i).size≤maxLen:=fun i=>by
  by_cases hi:i<ts.length
  ·simp only[nth,List.getD_eq_getElem?_getD,List.getElem?_eq_getElem hi,Option.getD_some]
   exact hs _ (List.getElem_mem hi)
  ·simp only[nth,List.getD_eq_getElem?_getD,List.getElem?_eq_none (by omega:ts.length≤i),Option.getD_none]
   unfold maxLen;decide
 rcases h2.2 with⟨rfl,h0⟩| ⟨g,cap,cur,rfl,hb,hh,r⟩
 ·have e:ts=[]:=List.length_eq_zero_iff.1 h0
  subst e
  exact⟨none,0,rfl,fun h=>absurd rfl h,hsz,by unfold maxLen;simp⟩
 ·refine⟨_,_,rfl,fun _=>⟨g,0,rfl,trivial,fun i hi=>?_⟩,hsz,by unfold maxLen;omega⟩
  have:=h2.cellAt i (by omega)
  rw[Nat.zero_add,this,List.getElem?_map]
  simp[nth,List.getD_eq_getElem?_getD,hi]
theorem aQI{f:Nat}{ks:List Se}(hf:FitS f ks):(0<(aAU f [] ks ks.length).length)↔ks.isEmpty=false:=by
 rw[aGM f [] ks _ (Nat.le_refl _) hf]
 cases ks with
 |nil=>simp[aBX]
 |cons a l=>
  simp only[List.isEmpty_cons,iff_true]
  cases f with
  |zero=>exact absurd hf (by simp[FitS])
  |succ f=>
   have:=aLF (f+1) (a::l) (a::l).length 0 (by simp)
   rw[aBD] at this
   omega
theorem aJ2:∀(l:List (Way× Se)) (ws:List (List UInt8)) (m:List (Way× Se)),aDG ws (l++m)=(aDG ws l&&aDG (ws++l.map fun x=>aCA x.1) m)
 |[],ws,m=>by simp[aDG]
 |x::l,ws,m=>by
  rw[List.cons_append,aDG,aDG,aJ2 l,List.map_cons,Bool.and_assoc]
  simp
theorem aRI{xs pre:List (Way× Se)}{x:Way× Se}(hp:pre++[x]<+:xs)(hb:aJ4 (pre.map fun x=>aCA x.1) x=false):aDG [] xs=false:=by
 obtain⟨m,rfl⟩:=hp
 rw[List.append_assoc,aJ2]
 simp[aDG,hb]
theorem aRF{pre:List (Way× Se)}{x:Way× Se}(hw:aDG [] pre=true)(hs:aJ4 (pre.map fun x=>aCA x.1) x=true):aDG [] (pre++[x])=true:=by
 rw[aJ2,hw]
 simp[aDG,hs]
end Go.Proofs.YtokmgbidmnanpaaGreatDoor
namespace Go.Proofs.YtokmgbidmnanpaaGreatDoor
open Go.RowKit Go.Shelf
def aG4(w:World)(P:Nat→Prop)(b:Nat):Prop:=P b∧∃o,w.heap[b]?=some o∧o.isCells=true
theorem Strs.only{w:World}{P:Nat→Prop}{ns:List ByteArray}{a:Option Addr}(h:Strs w P ns a):Strs w (aG4 w P) ns a:=by
 obtain⟨h1,h2,h3⟩:=h
 refine⟨fun hn=>?_,h2,h3⟩
 obtain⟨b,off,e,hb,hc⟩:=h1 hn
 exact⟨b,off,e,⟨hb,aDT (hc 0 (List.length_pos_iff.2 hn))⟩,hc⟩
theorem Arr.only{w:World}{P:Nat→Prop}{k n:Nat}{a:Option Addr}{C:Nat→Nat→Value}(hk:0<k)(h:Arr w P k n a C):Arr w (aG4 w P) k n a C:=fun hn=>by
 obtain⟨b,off,e,hb,hc⟩:=h hn
 exact⟨b,off,e,⟨hb,aDT (hc 0 hn 0 hk)⟩,hc⟩
theorem FRep.only{w:World}{P:Nat→Prop}{f:F}{v:Value}(h:FRep w P f v):FRep w (aG4 w P) f v:=by
 obtain⟨na,nc,e,h1,h2⟩:=h
 exact⟨na,nc,e,h1.only,h2⟩
theorem aC6.only{w:World}{P:Nat→Prop}{fs:List F}{a:Option Addr}(h:aC6 w P fs a):aC6 w (aG4 w P) fs a:=by
 obtain⟨h0,C,hA,hr⟩:=h
 exact⟨h0,C,hA.only (by omega),fun i hi=>(hr i hi).only⟩
theorem TRep.only{w:World}{P:Nat→Prop}{t:T}{v:Value}(h:TRep w P t v):TRep w (aG4 w P) t v:=by
 obtain⟨fa,fc,e,h1,h2⟩:=h
 exact⟨fa,fc,e,h1.only,h2⟩
theorem aEO.only{w:World}{P:Nat→Prop}{ts:List T}{a:Option Addr}(h:aEO w P ts a):aEO w (aG4 w P) ts a:=by
 obtain⟨h0,C,hA,hr⟩:=h
 exact⟨h0,C,hA.only (by omega),fun i hi=>(hr i hi).only⟩
theorem PRep.only{w:World}{P:Nat→Prop}{p:Pt}{v:Value}(h:PRep w P p v):PRep w (aG4 w P) p v:=by
 obtain⟨ta,tc,e,h1,h2⟩:=h
 exact⟨ta,tc,e,h1.only,h2⟩
theorem PRep.keepO{O:Nat→Prop}{A B:World}{lo:Nat}{p:Pt}{v:Value}(h:PRep A (·<lo) p v)(k:aBL O A B)(hO:∀b,O b→lo≤b):PRep B (·<lo) p v:=
 (h.only.mono fun b hb=>by
  obtain⟨hlt,o,h1,h2⟩:=hb
  rw[k.cells b o (fun h=>by have:=hO b h;omega) h1 h2,h1]).sub fun b hb=>hb.1
theorem aR4{w:World}{base e g cap n k:Nat}{xs:List Value}(h:w.ownsRow base e 1 (.slice (some ⟨g,0,none⟩) n cap) n xs)(hk:k≤n):w.ownsRow base e 1 (.slice (some ⟨g,0,none⟩) k cap) k (xs.take k):=by
 obtain⟨h1,h2⟩:=h
 refine⟨by rw[List.length_take];omega,Or.inr ?_⟩
 rcases h2 with⟨e,-⟩| ⟨g',cap',cur,e,hb,hh,hn,hm,hs,hx⟩
 ·simp at e
 ·simp only[Value.slice.injEq,Option.some.injEq,Addr.mk.injEq,and_true,true_and] at e
  obtain⟨rfl,rfl⟩:=e
  refine⟨g,cap,cur,rfl,hb,hh,by omega,hm,hs,?_⟩
  rw[←hx,List.take_take,Nat.mul_one,Nat.mul_one,Nat.min_eq_left hk]
theorem aEP{w:World}{base e sz n k:Nat}{v:Value}{xs:List Value}(h:w.ownsRow base e sz v n xs)(hk:v.ownBlock=some k):∃o,w.heap[k]?=some o∧o.isCells=true:=by
 rcases h.2 with⟨rfl,-⟩| ⟨g,cap,cur,rfl,-,hh,-⟩
 ·simp[Value.ownBlock] at hk
 ·simp only[Value.ownBlock,Option.some.injEq] at hk
  subst hk
  exact⟨_,hh,rfl⟩
def ArgA(lo:Nat)(O:Nat→Prop)(p:Pt)(x:Way× Se× ByteArray)(ar:Array Value)(A:World):Prop:=∃(g wc:Nat) (sa:Option Addr) (sc:Nat) (na:Option Addr) (nc:Nat),
 ar=#[.slice (some ⟨g,0,none⟩) x.1.length wc,aHO x.2.2 x.2.1 sa sc (fldF p x.2.2 x.2.1.name) na nc (fldB p x.2.2 x.2.1.name&&!(fldF p x.2.2 x.2.1.name).hidden)]∧x.1.length≤wc∧Strs A (·<A.heap.size) x.1 (some ⟨g,0,none⟩)∧(lo≤g∧¬O g)∧g<A.heap.size∧(∀j,A.frozen? ⟨g,j,none⟩=false)∧(∀a∈ x.1,a.size≤1048576)∧x.1≠[]∧
 FRep A (·<lo) (fldF p x.2.2 x.2.1.name) (aggF (fldF p x.2.2 x.2.1.name) na nc)
structure IAs(p:Pt)(c0 c1:Value)(lo N:Nat)(J:List (Way× Se× ByteArray)→(Nat→Prop)→World→Prop)(l pb yb tb:Nat)(pre:List (Way× Se))(O2 O:Nat→Prop)(tv:Value)(A:World):Prop where
 j:J (askF p [qry] pre) O A
 typ:A.heap[tb]?=some (.cells #[tv] 29 (0,0))
 row:A.ownsRow N 9 1 tv (tyF p [qry] pre).length ((tyF p [qry] pre).map Value.string)
 nb:tv.ownBlock≠some tb∧tv.ownBlock≠some yb
 yld:A.heap[yb]?=some (.cells #[.func (.yield l) #[] #[]] 147 (0,0))
 prt:A.cell? ⟨pb,0,none⟩=some c0∧A.cell? ⟨pb,1,none⟩=some c1
 rep:PRep A (·<lo) p (.agg #[c0,c1])
 own:∀b,O2 b↔O b∨b=tb∨tv.ownBlock=some b
 dis:∀b,O b→b≠tb∧b≠yb∧b≠pb∧tv.ownBlock≠some b∧lo≤b
 len:(tyF p [qry] pre).length≤6
theorem IAs.looks{p:Pt}{c0 c1:Value}{lo N Y:Nat}{J:List (Way× Se× ByteArray)→(Nat→Prop)→World→Prop}{l pb yb tb:Nat}(hJl:∀pre O,aCI N O (J pre O))(h1:N≤Y)(h2:tb<Y)(h3:yb<Y)(h4:pb<N)(h5:lo≤N)(h6:N≤tb)(pre:List (Way× Se))(O2:Nat→Prop):
  aCI Y O2 (fun A=>∃O tv,IAs p c0 c1 lo N J l pb yb tb pre O2 O tv A):=by
 rintro A B ⟨O,tv,h⟩ g1 g2 g3 g4 g5
 have ltb:=(Array.getElem?_eq_some_iff.1 h.typ).1
 have lyb:=(Array.getElem?_eq_some_iff.1 h.yld).1
 have hpb:B.heap[pb]?=A.heap[pb]?:=g5 pb (by omega) (Or.inl (by omega))
 refine⟨O,tv,hJl _ O A B h.j g1 g2 g3 g4 fun b hb hN=>g5 b hb (hN.imp (fun h=>by omega) fun ho=>(h.own b).2 (Or.inl ho)),(g5 tb ltb (Or.inl h2)).trans h.typ,aAT h.row fun k hk=>g5 k (h.row.lt k hk).2 (Or.inr ((h.own k).2 (Or.inr (Or.inr hk)))),h.nb,(g5 yb lyb (Or.inl h3)).trans h.yld,⟨(World.cell?_of_block (a:=⟨pb,0,none⟩) hpb).trans h.prt.1,(World.cell?_of_block (a:=⟨pb,1,none⟩) hpb).trans h.prt.2⟩,h.rep.mono fun k hk=>g5 k (by have:k<lo:=hk;omega) (Or.inl (by have:k<lo:=hk;omega)),h.own,h.dis,h.len⟩
theorem IAs.cells{p:Pt}{c0 c1:Value}{lo N:Nat}{J:List (Way× Se× ByteArray)→(Nat→Prop)→World→Prop}{l pb yb tb:Nat}(hJc:∀pre O A,J pre O A→aDX O A){pre:List (Way× Se)}{O2 O:Nat→Prop}{tv:Value}{A:World}(h:IAs p c0 c1 lo N J l pb yb tb pre O2 O tv A):aDX O2 A:=fun b hb=>by
 rcases(h.own b).1 hb with hb| rfl| hb
 ·exact hJc _ _ _ h.j b hb
 ·exact⟨_,h.typ,rfl⟩
 ·exact aEP h.row hb
theorem IAs.turn{p:Pt}{c0 c1:Value}{lo N:Nat}{J:List (Way× Se× ByteArray)→(Nat→Prop)→World→Prop}{l pb yb tb:Nat}(hJl:∀pre O,aCI N O (J pre O))(hJc:∀pre O A,J pre O A→aDX O A){pre:List (Way× Se)}{O2 O:Nat→Prop}{tv tv':Value}{A W2:World}{x:Way× Se}(h:IAs p c0 c1 lo N J l pb yb tb pre O2 O tv A)(h6:N≤tb)(h5:lo≤N)(h4:pb<N)(h7:N≤yb)(hyt:yb≠tb)
  (hsz:A.heap.size≤W2.heap.size) (hos:W2.os=A.os∧W2.tape=A.tape∧W2.output=A.output) (hbl:∀b,b<A.heap.size→tv.ownBlock≠some b→W2.heap[b]?=A.heap[b]?)
  (hown:W2.ownsRow N 9 1 tv' (tyF p [qry] (pre++[x])).length ((tyF p [qry] (pre++[x])).map Value.string)) (hat:tv'.ownBlock=tv.ownBlock∨∃g,tv'.ownBlock=some g∧A.heap.size≤g):
  J (askF p [qry] pre) O (W2.setCell ⟨tb,0,none⟩ tv')∧aBL O2 A (W2.setCell ⟨tb,0,none⟩ tv')∧KeepsOthers A (W2.setCell ⟨tb,0,none⟩ tv')∧
  ∀(B:World) (O':Nat→Prop),J (askF p [qry] (pre++[x])) O' B→aBL O (W2.setCell ⟨tb,0,none⟩ tv') B→(∀b,O' b→O b∨(W2.setCell ⟨tb,0,none⟩ tv').heap.size≤b)→(tyF p [qry] (pre++[x])).length≤6→
   ∃O2',(∃O tv,IAs p c0 c1 lo N J l pb yb tb (pre++[x]) O2' O tv B)∧aBL O2 A B∧∀b,O2' b→O2 b∨A.heap.size≤b:=by
 have ltb:=(Array.getElem?_eq_some_iff.1 h.typ).1
 have lyb:=(Array.getElem?_eq_some_iff.1 h.yld).1
 have hset:∀b,b≠tb→(W2.setCell ⟨tb,0,none⟩ tv').heap[b]?=W2.heap[b]?:=fun b hb=>Below.heap_setCell _ _ _ _ hb
 have hz:(W2.setCell ⟨tb,0,none⟩ tv').heap.size=W2.heap.size:=aAZ _ _ _
 have htb:W2.heap[tb]?=some (.cells #[tv] 29 (0,0)):=(hbl tb ltb h.nb.1).trans h.typ
 have htb2:(W2.setCell ⟨tb,0,none⟩ tv').heap[tb]?=some (.cells #[tv'] 29 (0,0)):=by rw[aA9 htb];rfl
 have hol:∀k,tv.ownBlock=some k→N≤k∧k<A.heap.size:=fun k hk=>h.row.lt k hk
 have hnt:tv'.ownBlock≠some tb:=fun e=>by
  rcases hat with e2| ⟨g,e2,hg⟩
  ·exact h.nb.1 (e2▸e)
  ·rw[e2] at e;simp at e;omega
 have hny:tv'.ownBlock≠some yb:=fun e=>by
  rcases hat with e2| ⟨g,e2,hg⟩
  ·exact h.nb.2 (e2▸e)
  ·rw[e2] at e;simp at e;omega
 have hOA:∀b,O b→b<A.heap.size:=fun b hb=>(hJc _ _ _ h.j).lt b hb
 have hOo:∀b,O b→tv'.ownBlock≠some b:=fun b hb e=>by
  rcases hat with e2| ⟨g,e2,hg⟩
  ·exact(h.dis b hb).2.2.2.1 (e2▸e)
  ·rw[e2] at e;simp at e;have:=hOA b hb;omega
 have hblk:∀b,b<A.heap.size→b≠tb→tv.ownBlock≠some b→(W2.setCell ⟨tb,0,none⟩ tv').heap[b]?=A.heap[b]?:=fun b h1 h2 h3=>(hset b h2).trans (hbl b h1 h3)
 have hk2:aBL O2 A (W2.setCell ⟨tb,0,none⟩ tv'):=⟨by omega,fun b o hb ho _=>(hblk b (Array.getElem?_eq_some_iff.1 ho).1 (fun e=>hb ((h.own b).2 (Or.inr (Or.inl e)))) (fun e=>hb ((h.own b).2 (Or.inr (Or.inr e))))).trans ho⟩
 refine⟨hJl _ O A _ h.j (by omega) hos.1 hos.2.1 hos.2.2 fun b hb hN=>hblk b hb ?_ ?_,hk2,⟨by omega,fun k o hko ho=>?_⟩,fun B O' hJB hk hO' hlen=>?_⟩
 ·rcases hN with hN| hN
  ·omega
  ·exact(h.dis b hN).1
 ·rcases hN with hN| hN
  ·intro e;have:=hol b e;omega
  ·exact(h.dis b hN).2.2.2.1
 ·refine(hblk k (Array.getElem?_eq_some_iff.1 hko).1 (fun e=>?_) (fun e=>?_)).trans hko
  ·rw[e,h.typ] at hko;cases hko;cases ho
  ·obtain⟨o2,h1,h2⟩:=aEP h.row e
   rw[hko] at h1;cases h1;rw[ho] at h2;cases h2
 ·have htO:¬O tb:=fun hb=>(h.dis tb hb).1 rfl
  have hyO:¬O yb:=fun hb=>(h.dis yb hb).2.1 rfl
  have hpO:¬O pb:=fun hb=>(h.dis pb hb).2.2.1 rfl
  have hyW:(W2.setCell ⟨tb,0,none⟩ tv').heap[yb]?=some (.cells #[.func (.yield l) #[] #[]] 147 (0,0)):=(hblk yb lyb hyt h.nb.2).trans h.yld
  have hpW:(W2.setCell ⟨tb,0,none⟩ tv').heap[pb]?=A.heap[pb]?:=hblk pb (by omega) (by omega) (fun e=>by have:=hol pb e;omega)
  have hrowW:(W2.setCell ⟨tb,0,none⟩ tv').ownsRow N 9 1 tv' (tyF p [qry] (pre++[x])).length ((tyF p [qry] (pre++[x])).map Value.string):=aAT hown fun k hk=>hset k fun e=>hnt (e▸hk)
  have hrep:PRep (W2.setCell ⟨tb,0,none⟩ tv') (·<lo) p (.agg #[c0,c1]):=h.rep.mono fun k hk=>hblk k (by have:k<lo:=hk;omega) (by have:k<lo:=hk;omega) (fun e=>by have:=hol k e;have:k<lo:=hk;omega)
  refine⟨fun b=>O' b∨b=tb∨tv'.ownBlock=some b,⟨O',tv',hJB,hk.cells tb _ htO htb2 rfl,aAT hrowW fun k hk2=>?_,⟨hnt,hny⟩,hk.cells yb _ hyO hyW rfl,⟨hk.cell hpO ((World.cell?_of_block (a:=⟨pb,0,none⟩) hpW).trans h.prt.1),hk.cell hpO ((World.cell?_of_block (a:=⟨pb,1,none⟩) hpW).trans h.prt.2)⟩,hrep.keepO hk fun b hb=>(h.dis b hb).2.2.2.2,fun b=>Iff.rfl,fun b hb=>?_,hlen⟩,hk2.then (fun b hb=>Or.inl hb) ?_,fun b hb=>?_⟩
  ·obtain⟨o,h1,h2⟩:=aEP hrowW hk2
   rw[hk.cells k o (fun hb=>hOo k hb hk2) h1 h2,h1]
  ·rcases hO' b hb with hb| hb
   ·exact⟨(h.dis b hb).1,(h.dis b hb).2.1,(h.dis b hb).2.2.1,hOo b hb,(h.dis b hb).2.2.2.2⟩
   ·refine⟨by omega,by omega,by omega,fun e=>?_,by omega⟩
    have:=(hrowW.lt b e).2
    omega
  ·exact⟨hk.size,fun b o hb h1 h2=>hk.cells b o (fun ho=>hb ((h.own b).2 (Or.inl ho))) h1 h2⟩
  ·rcases hb with hb| rfl| hb
   ·rcases hO' b hb with hb| hb
    ·exact Or.inl ((h.own b).2 (Or.inl hb))
    ·exact Or.inr (by omega)
   ·exact Or.inl ((h.own _).2 (Or.inr (Or.inl rfl)))
   ·rcases hat with e2| ⟨g,e2,hg⟩
    ·exact Or.inl ((h.own b).2 (Or.inr (Or.inr (e2▸hb))))
    ·rw[e2] at hb;simp at hb;exact Or.inr (by omega)
end Go.Proofs.YtokmgbidmnanpaaGreatDoor
