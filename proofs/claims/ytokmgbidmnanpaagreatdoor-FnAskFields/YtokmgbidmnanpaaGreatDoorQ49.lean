import Derived.Test.YtokmgbidmnanpaaGreatDoorQ48
import Derived.Test.YtokmgbidmnanpaaGreatDoorQ32
import Derived.Test.YtokmgbidmnanpaaGreatDoorQ1
import Derived.Test.YtokmgbidmnanpaaGreatDoorQ40
import Derived.Test.YtokmgbidmnanpaaGreatDoorQ45
import Derived.Deep.RegionHeld3
set_option linter.unusedSimpArgs false
set_option linter.unusedVariables false
namespace Go.Proofs.YtokmgbidmnanpaaGreatDoor
open Go.RowKit
theorem aSG(l:List ByteArray)(t:ByteArray):l<+:addT l t:=by
 unfold addT
 split
 ·exact List.prefix_rfl
 ·exact List.prefix_append _ _
theorem aH8(ts:List ByteArray):∀l,l<+:aC1 l ts:=by
 induction ts with
 |nil=>intro l;exact List.prefix_rfl
 |cons t ts ih=>intro l;exact(aSG l t).trans (ih _)
theorem aQD{l:List ByteArray}(t:ByteArray)(h:(l.map ByteArray.toList).Nodup):((addT l t).map ByteArray.toList).Nodup:=by
 unfold addT
 split
 ·exact h
 ·next hn=>
  rw[List.map_append,List.nodup_append]
  refine⟨h,by simp,fun a ha b hb=>?_⟩
  simp only[List.map_cons,List.map_nil,List.mem_singleton] at hb
  subst hb
  intro e
  subst e
  apply hn
  unfold tmT
  rw[List.contains_eq_mem,decide_eq_true_eq]
  exact ha
theorem aMJ(ts:List ByteArray):∀l:List ByteArray,(l.map ByteArray.toList).Nodup→((aC1 l ts).map ByteArray.toList).Nodup:=by
 induction ts with
 |nil=>intro l h;exact h
 |cons t ts ih=>intro l h;exact ih _ (aQD t h)
theorem aTT(l:List ByteArray)(t:ByteArray):addT l t≠[]:=by
 unfold addT
 split
 ·next h=>
  intro e
  rw[e] at h
  simp[tmT] at h
 ·simp
theorem aEU(p:Pt):∀(f:Nat) (nm:ByteArray) (ks:List Se) (n:Nat) (out:List ByteArray),(out.map ByteArray.toList).Nodup→((aAD p f nm ks n out).map ByteArray.toList).Nodup
 |0,_,_,_,out,h=>by rw[aAD];exact h
 |f+1,_,_,0,out,h=>by rw[aAD];exact h
 |f+1,nm,ks,n+1,out,h=>by
  rw[aAD]
  exact aEU p f _ _ _ _ (aMJ _ _ (aEU p (f+1) nm ks n out h))
theorem aG3(p:Pt):∀(f:Nat) (nm:ByteArray) (ks:List Se) (n:Nat) (out:List ByteArray),out<+:aAD p f nm ks n out
 |0,_,_,_,out=>by rw[aAD];exact List.prefix_rfl
 |f+1,_,_,0,out=>by rw[aAD];exact List.prefix_rfl
 |f+1,nm,ks,n+1,out=>by
  rw[aAD]
  exact((aG3 p (f+1) nm ks n out).trans (aH8 _ _)).trans (aG3 p f _ _ _ _)
theorem aNC(p:Pt)(f:Nat)(nm:ByteArray)(ks:List Se)(n:Nat)(out:List ByteArray):aAD p (f+1) nm ks n out<+:aAD p (f+1) nm ks (n+1) out∧aAD p (f+1) nm ks (n+1) out≠[]:=by
 have e:aAD p (f+1) nm ks (n+1) out=aAD p f (fldF p nm (sth ks n).name).of (sth ks n).kids (sth ks n).kids.length (aC1 (aAD p (f+1) nm ks n out) (ofF nm (fldF p nm (sth ks n).name))):=by rw[aAD]
 rw[e]
 have h1:=aG3 p f (fldF p nm (sth ks n).name).of (sth ks n).kids (sth ks n).kids.length (aC1 (aAD p (f+1) nm ks n out) (ofF nm (fldF p nm (sth ks n).name)))
 refine⟨(aH8 _ _).trans h1,fun h0=>?_⟩
 rw[h0] at h1
 have h2:=List.prefix_nil.1 h1
 have h3:addT (aAD p (f+1) nm ks n out) (fldT nm (fldF p nm (sth ks n).name).name)<+:aC1 (aAD p (f+1) nm ks n out) (ofF nm (fldF p nm (sth ks n).name)):=aH8 _ _
 rw[h2] at h3
 exact aTT _ _ (List.prefix_nil.1 h3)
theorem aFO(ks:List Se){m i:Nat}(h:i<m):sth (ks.take m) i=sth ks i:=by simp[sth,List.getD_eq_getElem?_getD,List.getElem?_take,h]
theorem aHR(p:Pt)(f:Nat)(nm:ByteArray)(ks:List Se)(m:Nat)(out:List ByteArray):∀n,n≤m→aAD p (f+1) nm (ks.take m) n out=aAD p (f+1) nm ks n out
 |0,_=>by rw[aAD,aAD]
 |n+1,h=>by
  rw[aAD,aAD,aHR p f nm ks m out n (by omega),aFO ks (show n<m by omega)]
theorem aUE{f:Nat}{p:Pt}{ks:List Se}(h:aCE (aBM f p ks)=0):okP p=true∧aDH f ks=true:=by
 unfold aBM at h
 split at h
 ·assumption
 ·simp[aCE] at h
theorem aK1{f:Nat}{p:Pt}{ks:List Se}(hf:FitS f ks)(h:aCE (aBM f p ks)=0):(∀t∈ aAM f p (ks.take (ks.length- 1)),t∈ aAM f p ks)∧aAM f p ks≠[]∧0<ks.length∧((aAM f p ks).map ByteArray.toList).Nodup:=by
 have ho:=(aUE h).2
 have hpos:0<ks.length:=by
  unfold aDH askB at ho
  simp only[Bool.and_eq_true,Bool.not_eq_true'] at ho
  cases ks with
  |nil=>simp at ho
  |cons a l=>simp
 obtain⟨g,rfl⟩:∃g,f=g+1:=by
  cases f with
  |zero=>have e:ks=[]:=hf;rw[e] at hpos;simp at hpos
  |succ g=>exact⟨g,rfl⟩
 obtain⟨n,hn⟩:∃n,ks.length=n+1:=⟨ks.length- 1,by omega⟩
 have e:aAM (g+1) p ks=aAD p (g+1) qry ks (n+1) []:=by unfold aAM;rw[if_pos h,hn]
 have hs:=aNC p g qry ks n []
 rw[←e] at hs
 refine⟨fun t ht=>?_,hs.2,hpos,by rw[e];exact aEU p (g+1) qry ks (n+1) [] (by simp)⟩
 unfold aAM at ht
 split at ht
 ·have e2:(ks.take (ks.length- 1)).length=n:=by rw[List.length_take];omega
  rw[e2,aHR p g qry ks (ks.length- 1) [] n (by omega)] at ht
  exact hs.1.subset ht
 ·cases ht
end Go.Proofs.YtokmgbidmnanpaaGreatDoor
namespace Go.Proofs.YtokmgbidmnanpaaGreatDoor
open Go.RowKit Go.Shelf Go.Maps
attribute [local go_sem] Oper.semAt_some
set_option maxRecDepth 20000 in
set_option maxHeartbeats 3200000 in
theorem aLP(p:Pt)(hz:szP p≤1048576)(c0 c1:Value)(base:Nat):∀(f:Nat) (nm:ByteArray) (ks:List Se) (w:World) (ka:Option Addr) (kc:Nat) (out:List ByteArray) (v:Value),FitS f ks→aAA w (·<base) ks ka→PRep w (·<base) p (.agg #[c0,c1])→Row9 base w v out→base≤w.heap.size→nm.size≤1048576→out.length+aBX f ks ks.length*1048577≤1000000000→
  Calls Tryz.prog 67 #[.agg #[c0,c1],.string nm,.slice ka ks.length kc,v] w fun e w'=>aI8 base w v (aAD p f nm ks ks.length out) e w':=by
 intro f
 induction f with
 |zero=>
  intro nm ks w ka kc out v hf hR hP hO hB hnm hbd
  have e:ks=[]:=hf
  subst e
  obtain⟨va,vc,rfl,-⟩:=hO.strs
  have HO:=aA0 hO
  clear hf hR hP hbd hO
  have bB:=aA2 w (.cells #[c0,c1] 43)
  go_enter Tryz.func67,Tryz.ntmps67
  go_wp2_with fail
  generalize w.alloc (.cells #[c0,c1] 43)=Z at*
  go_loopw [3,9] (fun y i wr=>y=.slice va out.length vc∧i=.int .i64 0∧wr=Z) (fun _ _ _=>0)
  case atStart=>exact⟨rfl,rfl,rfl⟩
  case round=>
   obtain⟨rfl,rfl,rfl⟩:=hrel
   go_wp2_with fail
   go_ret
   have e:∀n,aAD p 0 nm ([]:List Se) n out=out:=fun n=>by simp[aAD]
   unfold aI8
   rw[e]
   exact⟨va,vc,rfl,HO.out.keep fun b hb=>bB.block b (HO.out.1.lt b hb).2,Grew.below _ bB⟩
 |succ f IH=>
  intro nm ks w ka kc out v hf hR hP hO hB hnm hbd
  have h72:=hR.1
  obtain⟨va,vc,rfl,-⟩:=hO.strs
  have HR:=aA0 hR
  have HP:=aA0 hP
  have HF:=aA0 hf
  have HO:=aA0 hO
  have HBD:=aA0 hbd
  have HBL:=aA0 hB
  clear hR hP hf hbd hO
  have bB:=aA2 w (.cells #[c0,c1] 43)
  have zB:(w.alloc (.cells #[c0,c1] 43)).heap.size=w.heap.size+1:=by simp
  have nP:=heap_alloc_new w (.cells #[c0,c1] 43)
  go_enter Tryz.func67,Tryz.ntmps67
  go_wp2_with fail
  generalize w.alloc (.cells #[c0,c1] 43)=Z at*
  have HZ:Hid (∀W' v',Grew Z (.slice va out.length vc) W' v'→(W'.cell? ⟨w.heap.size,0,none⟩=some c0∧W'.cell? ⟨w.heap.size,1,none⟩=some c1)∧(∀b,b<base→W'.heap[b]?=w.heap[b]?)∧Z.heap.size≤W'.heap.size):=aA0 fun W' v' hW=>by
   have hn:∀b,(b<base∨w.heap.size≤b)→(Value.slice va out.length vc).ownBlock≠some b:=fun b hb e=>by have:=HO.out.1.lt b e;omega
   have hp:=(hW.block w.heap.size (by omega) (hn _ (Or.inr (Nat.le_refl _)))).trans nP
   exact⟨⟨(aA1 hp 0 (by simp)).1,(aA1 hp 1 (by simp)).1⟩,fun b hb=>(hW.block b (by omega) (hn b (Or.inl hb))).trans (bB.block b (by omega)),hW.size⟩
  have HWZ:Hid (∀W' v',Grew Z (.slice va out.length vc) W' v'→Grew w (.slice va out.length vc) W' v'):=aA0 fun W' v' hW=>(Grew.below _ bB).trans hW
  have HOZ:Hid (Row9 base Z (.slice va out.length vc) out):=aA0 (HO.out.keep fun b hb=>bB.block b (HO.out.1.lt b hb).2)
  clear nP bB
  go_loopw [3,9] (fun y i wr=>∃(k:Nat) (L:List ByteArray) (la:Option Addr) (lc:Nat),k≤ks.length∧y=.slice la L.length lc∧i=.int .i64 k∧Hid (aAD p (f+1) nm ks k out=L)∧Hid (Row9 base wr (.slice la L.length lc) L∧Grew Z (.slice va out.length vc) wr (.slice la L.length lc))) (fun _ i _=>ks.length- (intOf i).toNat)
  case atStart=>exact⟨0,out,va,vc,Nat.zero_le _,rfl,rfl,aA0 (by simp[aAD]),aA0 ⟨HOZ.out,Grew.refl _ _⟩⟩
  case round=>
   obtain⟨k,L,la,lc,hk,rfl,rfl,HM,HRG⟩:=hrel
   obtain⟨w0,rfl⟩:∃x,x=wr:=⟨wr,rfl⟩
   have HGZ:=aA0 HRG.out.2
   have HRL:=aA0 HRG.out.1
   clear HRG
   obtain⟨⟨z0,z1⟩,hbb,zb⟩:=HZ.out w0 _ HGZ.out
   by_cases hlt:k<ks.length
   case neg=>
    have e:k=ks.length:=by omega
    subst e
    clear z0 z1
    go_wp2_with fail
    go_ret
    unfold aI8
    rw[HM.out]
    exact⟨la,lc,rfl,HRL.out,HWZ.out _ _ HGZ.out⟩
   have hki:(k:Int)<(ks.length:Int):=by omega
   obtain⟨-,C,hA,hr⟩:=HR.out.mono fun b hb2=>hbb b hb2
   obtain⟨kb,koff,rfl,hkB,hkc⟩:=hA (by omega)
   obtain⟨sa,sc,e0,e1,e2,e3,e4,hal,hnm2,hKids⟩:=(hr k hlt).pieces
   have hkB':kb<base:=hkB
   have q1:w0.cell? ⟨kb,koff+k*5+1,none⟩=some (.string (sth ks k).name):=e1▸hkc k hlt 1 (by omega)
   have q4:w0.cell? ⟨kb,koff+k*5+4,none⟩=some (.slice sa (sth ks k).kids.length sc):=e4▸hkc k hlt 4 (by omega)
   have HSU:Hid (aAD p (f+1) nm ks (k+1) out=aAD p f (fldF p nm (sth ks k).name).of (sth ks k).kids (sth ks k).kids.length (aC1 L (ofF nm (fldF p nm (sth ks k).name)))):=aA0 (by rw[aAD,HM.out])
   have hLlen:L.length+1048577+aBX f (sth ks k).kids (sth ks k).kids.length*1048577≤1000000000:=by
    have h1:=aGB p hz (f+1) nm ks k out
    rw[HM.out] at h1
    have h2:=aEH (f+1) ks (show k+1≤ks.length from hlt)
    rw[aBN,aBD] at h2
    have h3:=HBD.out
    have h4:(aBX (f+1) ks k+(1+aBX f (sth ks k).kids (sth ks k).kids.length))*1048577≤aBX (f+1) ks ks.length*1048577:=Nat.mul_le_mul_right _ h2
    rw[Nat.add_mul,Nat.add_mul] at h4
    omega
   have HKD:=aA0 hKids
   have HFK:=aA0 (HF.out k hlt)
   clear e0 e1 e2 e3 e4 hkc hr hA hKids hal hnm2
   generalize sth ks k=s at*
   obtain⟨gF,hgF⟩:∃gF,gF=fldF p nm s.name:=⟨_,rfl⟩
   have hsm:=aEI p hz nm s.name
   rw[←hgF] at hsm
   have HG:Hid (∀W,Below w0.heap.size w0 W→Calls Tryz.prog 74 #[.agg #[c0,c1],.string nm,.string s.name] W fun e w'=>∃na nc kn,e=.returned (.tuple #[.agg #[.string gF.name,.string gF.of,.bool gF.list,.bool gF.must,.bool gF.far,.bool gF.hidden,.bool gF.shared,.slice na gF.needs.length nc],.bool kn])∧Strs w' (·<base) gF.needs na∧Below W.heap.size W w'):=aA0 fun W hW=>(aIR p nm s.name W base _ (HP.out.mono fun b hb=>(hW.block b (by have:=HBL.out;have:b<base:=hb;omega)).trans (hbb b hb)) (by have:=HBL.out;have:=hW.size;omega)).mono fun e w' ⟨n1,o1,l1,m1,f1,h1,s1,na,nc,he,hb,hf⟩=>by
    obtain⟨na',nc',hv',hst,-⟩:=hf
    rw[he,hv',aOL,←hgF]
    rw[aOL,←hgF] at hst
    exact⟨na',nc',_,rfl,hst,hb⟩
   rw[←hgF] at HSU
   clear hgF
   obtain⟨gn,gof,gl,gm,gfr,gh,gs,gd⟩:=gF
   simp only at HSU HG hsm
   obtain⟨hs0,hs1,hs2,hs3⟩:=hsm
   have HS3:=aA0 hs3
   clear hs3
   have HBS:Hid (∀W,Below w0.heap.size w0 W→base≤W.heap.size):=aA0 fun W hW=>by have:=HBL.out;have:=hW.size;omega
   have HCL:Hid (∀W,Below w0.heap.size w0 W→W.cell? ⟨w.heap.size,0,none⟩=some c0∧W.cell? ⟨w.heap.size,1,none⟩=some c1∧W.cell? ⟨kb,koff+k*5+1,none⟩=some (.string s.name)∧W.cell? ⟨kb,koff+k*5+4,none⟩=some (.slice sa s.kids.length sc)):=aA0 fun W hW=>⟨(hW.cell (aES z0)).trans z0,(hW.cell (aES z1)).trans z1,(hW.cell (aES q1)).trans q1,(hW.cell (aES q4)).trans q4⟩
   have hwz:w.heap.size<w0.heap.size:=by omega
   clear z0 z1 q1 q4
   go_wp2_with fail
   go_cut [10] (fun r wx=>∃(fb:Nat) (na:Option Addr) (nc:Nat),r=.pointer (some ⟨fb,0,none⟩)∧Hid (w0.heap.size≤fb∧wx.cell? ⟨fb,0,none⟩=some (.string gn)∧wx.cell? ⟨fb,1,none⟩=some (.string gof)∧wx.cell? ⟨fb,7,none⟩=some (.slice na gd.length nc)∧Strs wx (·<base) gd na)∧Below w0.heap.size w0 wx)
   case first=>
    refine wp_region_held_drew (S:=(fun w'=>w'.cell? ⟨w.heap.size,0,none⟩=some c0∧w'.cell? ⟨w.heap.size,1,none⟩=some c1∧w'.cell? ⟨kb,koff+k*5+1,none⟩=some (.string s.name)∧w'.cell? ⟨kb,koff+k*5+4,none⟩=some (.slice sa s.kids.length sc))) (by kernel_rfl) (HCL.out _ (Below.refl _ _).drew) (fun hHeld=>?_)
    have bX:Below w0.heap.size w0 w0.drew:=(Below.refl _ _).drew
    generalize w0.drew=wD at*
    refine tkH 0 hHeld ?_
    refine tkH 1 hHeld ?_
    refine tkH 2 hHeld ?_
    refine tkH 3 hHeld ?_
    refine tkH 4 hHeld ?_
    refine tkH 5 hHeld ?_
    refine tkH 6 hHeld ?_
    refine rdyH [7,11] ?_
    refine rcH (fun K hK=>?_) ?_
    ·go_simp
     refine(HG.out wD bX).mono ?_
     rintro e wK ⟨na,nc,kn,rfl,hnd,bK⟩
     have bX:=bX.trans (bK.mono bX.size)
     refine hK.out _ _ (HCL.out _ bX) (fun hHeld=>?_)
     clear hK K
     try simp only[Act.put,List.setIfInBounds_toArray,List.set_cons_zero,List.set_cons_succ]
     refine tkH 8 hHeld ?_
     refine tkH 9 hHeld ?_
     refine tkH 10 hHeld ?_
     refine rdyH [11] ?_
     refine rcH (fun K hK=>?_) AllReadyH.nil
     go_simp
     have bE:=aA2 wK (.cells #[.string ⟨#[]⟩,.string ⟨#[]⟩,.bool false,.bool false,.bool false,.bool false,.bool false,.slice none 0 0] 54)
     have nE:=aA3 (w:=wK) #[.string ⟨#[]⟩,.string ⟨#[]⟩,.bool false,.bool false,.bool false,.bool false,.bool false,.slice none 0 0] 54 rfl
     have qE:w0.heap.size≤wK.heap.size:=bX.size
     have zE:wK.heap.size<(wK.alloc (.cells #[.string ⟨#[]⟩,.string ⟨#[]⟩,.bool false,.bool false,.bool false,.bool false,.bool false,.slice none 0 0] 54)).heap.size:=by simp
     have bXX:=bX
     have bX:=bX.trans (bE.mono bX.size)
     have hnd:=hnd.under (bE.mono (HBS.out _ bXX))
     refine hK.out _ _ (HCL.out _ bX) (fun hHeld=>?_)
     clear hK K
     try simp only[Act.put,List.setIfInBounds_toArray,List.set_cons_zero,List.set_cons_succ]
     generalize wK.alloc (.cells #[.string ⟨#[]⟩,.string ⟨#[]⟩,.bool false,.bool false,.bool false,.bool false,.bool false,.slice none 0 0] 54)=wE at*
     refine rdyH [12] ?_
     refine rcH (fun K hK=>?_) AllReadyH.nil
     obtain⟨y0,g0⟩:=aA1 nE 0 (by simp)
     obtain⟨y1,g1⟩:=aA1 nE 1 (by simp)
     obtain⟨y2,g2⟩:=aA1 nE 2 (by simp)
     obtain⟨y3,g3⟩:=aA1 nE 3 (by simp)
     obtain⟨y4,g4⟩:=aA1 nE 4 (by simp)
     obtain⟨y5,g5⟩:=aA1 nE 5 (by simp)
     obtain⟨y6,g6⟩:=aA1 nE 6 (by simp)
     obtain⟨y7,g7⟩:=aA1 nE 7 (by simp)
     go_simp
     refine hK.out _ _ (HCL.out _ (aAN bX qE _ _ _ _ _ _ _ _)) (fun hHeld=>?_)
     clear hK K
     try simp only[Act.put,List.setIfInBounds_toArray,List.set_cons_zero,List.set_cons_succ]
     refine tkH 13 hHeld ?_
     refine wpAnyH_done (by kernel_rfl) ?_ _
     go_wp2_with fail
     go_meet
     case rel=>
      obtain⟨x0,x1,-,-,-,-,-,x7⟩:=aBB nE rfl (.string gn) (.string gof) (.bool gl) (.bool gm) (.bool gfr) (.bool gh) (.bool gs) (.slice na gd.length nc) _ rfl
      exact⟨_,na,nc,rfl,aA0 ⟨qE,x0,x1,x7,hnd.mono fun b hb=>aHJ (by have:=HBL.out;have:b<base:=hb;omega) _ _ _ _ _ _ _ _ _⟩,aAN bX qE _ _ _ _ _ _ _ _⟩
    refine rcH (fun K hK=>?_) AllReadyH.nil
    go_simp
    have bE:=aA2 wD (.cells #[.string ⟨#[]⟩,.string ⟨#[]⟩,.bool false,.bool false,.bool false,.bool false,.bool false,.slice none 0 0] 54)
    have nE:=aA3 (w:=wD) #[.string ⟨#[]⟩,.string ⟨#[]⟩,.bool false,.bool false,.bool false,.bool false,.bool false,.slice none 0 0] 54 rfl
    have qE:w0.heap.size≤wD.heap.size:=bX.size
    have zE:wD.heap.size<(wD.alloc (.cells #[.string ⟨#[]⟩,.string ⟨#[]⟩,.bool false,.bool false,.bool false,.bool false,.bool false,.slice none 0 0] 54)).heap.size:=by simp
    have bXX:=bX
    have bX:=bX.trans (bE.mono bX.size)
    refine hK.out _ _ (HCL.out _ bX) (fun hHeld=>?_)
    clear hK K
    try simp only[Act.put,List.setIfInBounds_toArray,List.set_cons_zero,List.set_cons_succ]
    generalize wD.alloc (.cells #[.string ⟨#[]⟩,.string ⟨#[]⟩,.bool false,.bool false,.bool false,.bool false,.bool false,.slice none 0 0] 54)=wE at*
    refine rdyH [7] ?_
    refine rcH (fun K hK=>?_) AllReadyH.nil
    go_simp
    refine(HG.out wE bX).mono ?_
    rintro e wK ⟨na,nc,kn,rfl,hnd,bK⟩
    have bX:=bX.trans (bK.mono bX.size)
    have nE:=(bK.block _ zE).trans nE
    have zE:=Nat.lt_of_lt_of_le zE bK.size
    refine hK.out _ _ (HCL.out _ bX) (fun hHeld=>?_)
    clear hK K
    try simp only[Act.put,List.setIfInBounds_toArray,List.set_cons_zero,List.set_cons_succ]
    refine tkH 8 hHeld ?_
    refine tkH 9 hHeld ?_
    refine tkH 10 hHeld ?_
    refine rdyH [12] ?_
    refine rcH (fun K hK=>?_) AllReadyH.nil
    obtain⟨y0,g0⟩:=aA1 nE 0 (by simp)
    obtain⟨y1,g1⟩:=aA1 nE 1 (by simp)
    obtain⟨y2,g2⟩:=aA1 nE 2 (by simp)
    obtain⟨y3,g3⟩:=aA1 nE 3 (by simp)
    obtain⟨y4,g4⟩:=aA1 nE 4 (by simp)
    obtain⟨y5,g5⟩:=aA1 nE 5 (by simp)
    obtain⟨y6,g6⟩:=aA1 nE 6 (by simp)
    obtain⟨y7,g7⟩:=aA1 nE 7 (by simp)
    go_simp
    refine hK.out _ _ (HCL.out _ (aAN bX qE _ _ _ _ _ _ _ _)) (fun hHeld=>?_)
    clear hK K
    try simp only[Act.put,List.setIfInBounds_toArray,List.set_cons_zero,List.set_cons_succ]
    refine tkH 13 hHeld ?_
    refine wpAnyH_done (by kernel_rfl) ?_ _
    go_wp2_with fail
    go_meet
    case rel=>
     obtain⟨x0,x1,-,-,-,-,-,x7⟩:=aBB nE rfl (.string gn) (.string gof) (.bool gl) (.bool gm) (.bool gfr) (.bool gh) (.bool gs) (.slice na gd.length nc) _ rfl
     exact⟨_,na,nc,rfl,aA0 ⟨qE,x0,x1,x7,hnd.mono fun b hb=>aHJ (by have:=HBL.out;have:b<base:=hb;omega) _ _ _ _ _ _ _ _ _⟩,aAN bX qE _ _ _ _ _ _ _ _⟩
   case rest=>
   obtain⟨fb,na,nc,rfl,HBX,bx⟩:=hcut
   obtain⟨wx,rfl⟩:∃x,x=wc:=⟨wc,rfl⟩
   have zx:=bx.size
   have HRX:Hid (Row9 base wx (.slice la L.length lc) L):=aA0 (HRL.out.keep fun b hb=>bx.block b (HRL.out.1.lt b hb).2)
   have HC2:Hid (∀W v',Grew wx (.slice la L.length lc) W v'→(W.cell? ⟨w.heap.size,0,none⟩=some c0∧W.cell? ⟨w.heap.size,1,none⟩=some c1∧W.cell? ⟨fb,1,none⟩=some (.string gof)∧W.cell? ⟨kb,koff+k*5+4,none⟩=some (.slice sa s.kids.length sc))∧W.cell? ⟨fb,0,none⟩=some (.string gn)∧W.cell? ⟨fb,7,none⟩=some (.slice na gd.length nc)∧(∀b,b<base→W.heap[b]?=w.heap[b]?)∧Strs W (·<base) gd na∧wx.heap.size≤W.heap.size):=aA0 fun W v' hW=>by
    obtain⟨y0,y1,-,y3⟩:=HCL.out wx bx
    obtain⟨qf,x0,x1,x7,xs⟩:=HBX.out
    have hown:=fun b (e:(Value.slice la L.length lc).ownBlock=some b)=>HRL.out.1.lt b e
    have hwn:(Value.slice la L.length lc).ownBlock≠some w.heap.size:=fun e=>by
     rcases HGZ.out.lies with e2| ⟨g,e2,hg⟩
     ·rw[e2] at e;have:=HO.out.1.lt _ e;omega
     ·rw[e2] at e;simp only[Option.some.injEq] at e;omega
    have hc:∀{b o:Nat} {u:Value},(Value.slice la L.length lc).ownBlock≠some b→wx.cell? ⟨b,o,none⟩=some u→W.cell? ⟨b,o,none⟩=some u:=fun hb hu=>(World.cell?_of_block (hW.block _ (aES hu) hb)).trans hu
    have hlow:∀b,b<base→(Value.slice la L.length lc).ownBlock≠some b:=fun b hb e=>by have:=hown b e;omega
    have hfb:(Value.slice la L.length lc).ownBlock≠some fb:=fun e=>by have:=hown fb e;omega
    have hbase:∀b,b<base→W.heap[b]?=wx.heap[b]?:=fun b hb=>hW.block b (by omega) (hlow b hb)
    exact⟨⟨hc hwn y0,hc hwn y1,hc hfb x1,hc (hlow kb hkB') y3⟩,hc hfb x0,hc hfb x7,fun b hb=>(hbase b hb).trans ((bx.block b (by omega)).trans (hbb b hb)),xs.mono fun b hb=>hbase b hb,hW.size⟩
   obtain⟨-,x0,-,-,-,-⟩:=HC2.out wx _ (Grew.refl _ _)
   have hn1:nm.size+1≤9223372036854775807:=by omega
   have hn2:nm.size+1+gn.size≤9223372036854775807:=by omega
   have HA1:Hid (Calls Tryz.prog 104 #[.slice la L.length lc,.string (nm++⟨#[46]⟩++gn)] wx fun e w'=>aI8 base wx (.slice la L.length lc) (addT L (fldT nm gn)) e w'):=aA0 (aKO L (fldT nm gn) wx base _ HRX.out (by rw[aGQ];unfold maxLen;omega) (by omega) (by have:=HBL.out;omega))
   obtain⟨L1,HL1⟩:∃L1,Hid (addT L (fldT nm gn)=L1):=⟨_,aA0 rfl⟩
   rw[HL1.out] at HA1
   go_wp2_with fail
   clear x0
   refine HA1.out.mono ?_
   rintro e w1 ⟨a1,cp1,rfl,hR1,hG1⟩
   have HRG1:=aA0 (And.intro hR1 hG1)
   clear hR1 hG1 HA1
   go_wp2_with fail
   go_loopw [3,12] (fun y i wr=>∃(j:Nat) (L2:List ByteArray) (a2:Option Addr) (c2:Nat),j≤gd.length∧y=.slice a2 L2.length c2∧i=.int .i64 j∧Hid (aC1 L1 ((gd.take j).map (fldT nm))=L2)∧Hid (Row9 base wr (.slice a2 L2.length c2) L2∧Grew wx (.slice la L.length lc) wr (.slice a2 L2.length c2))) (fun _ i _=>gd.length- (intOf i).toNat)
   case atStart=>exact⟨0,L1,a1,cp1,Nat.zero_le _,rfl,rfl,aA0 (by simp[aC1]),HRG1⟩
   case round=>
    obtain⟨j,L2,a2,c2,hj,rfl,rfl,HJ,GW⟩:=hrel
    obtain⟨w3,rfl⟩:∃x,x=wr:=⟨wr,rfl⟩
    obtain⟨-,-,x7,hb3,hst3,z3⟩:=HC2.out w3 _ GW.out.2
    by_cases hjl:j<gd.length
    ·obtain⟨nb,no,rfl,hnB,hnc⟩:=hst3.1 (by intro e;rw[e] at hjl;simp at hjl)
     have hji:(j:Int)<(gd.length:Int):=by omega
     have d0:=hnc j hjl
     have hl2:L2.length≤L.length+1+j:=by
      have h1:=aDR ((gd.take j).map (fldT nm)) L1
      rw[HJ.out] at h1
      have h2:=aLD L (fldT nm gn)
      rw[HL1.out] at h2
      simp only[List.length_map,List.length_take] at h1
      omega
     have hsj:=HS3.out j
     have HJN:Hid (aC1 L1 ((gd.take (j+1)).map (fldT nm))=addT L2 (fldT nm (nth gd j))):=aA0 (by rw[←HJ.out];exact aJG L1 gd nm j hjl)
     clear hst3 hnc
     generalize nth gd j=nd at*
     have hn3:nm.size+1+nd.size≤9223372036854775807:=by omega
     have HA2:Hid (Calls Tryz.prog 104 #[.slice a2 L2.length c2,.string (nm++⟨#[46]⟩++nd)] w3 fun e w'=>aI8 base w3 (.slice a2 L2.length c2) (addT L2 (fldT nm nd)) e w'):=aA0 (aKO L2 (fldT nm nd) w3 base _ GW.out.1 (by rw[aGQ];unfold maxLen;omega) (by omega) (by have:=HBL.out;omega))
     obtain⟨L3,HL3⟩:∃L3,Hid (addT L2 (fldT nm nd)=L3):=⟨_,aA0 rfl⟩
     rw[HL3.out] at HA2 HJN
     go_wp2_with fail
     clear x7 d0
     refine HA2.out.mono ?_
     rintro e w4 ⟨a4,c4,rfl,hR4,hG4⟩
     have HRG4:=aA0 (And.intro hR4 (GW.out.2.trans hG4))
     clear hR4 hG4 HA2
     go_wp2_with fail
     go_roundw
     case measure=>simp[intOf];omega
     case rel=>exact⟨j+1,L3,a4,c4,by omega,by simp,by go_num,HJN,HRG4⟩
    have ej:j=gd.length:=by omega
    subst ej
    clear hst3
    have HLL:Hid (aC1 L (ofF nm ⟨gn,gof,gl,gm,gfr,gh,gs,gd⟩)=L2):=aA0 (by
     rw[←HJ.out,List.take_length,←HL1.out]
     rfl)
    rw[HLL.out] at HSU
    have hl2:L2.length≤L.length+1048577:=by
     rw[←HLL.out]
     have h1:=aDR (ofF nm ⟨gn,gof,gl,gm,gfr,gh,gs,gd⟩) L
     have h2:(ofF nm ⟨gn,gof,gl,gm,gfr,gh,gs,gd⟩).length=1+gd.length:=by simp[ofF];omega
     omega
    obtain⟨L3,HNL⟩:∃L3,Hid (aAD p f gof s.kids s.kids.length L2=L3):=⟨_,aA0 rfl⟩
    rw[HNL.out] at HSU
    have HREC:Hid (∀W,Below w3.heap.size w3 W→Calls Tryz.prog 67 #[.agg #[c0,c1],.string gof,.slice sa s.kids.length sc,.slice a2 L2.length c2] W fun e w'=>aI8 base W (.slice a2 L2.length c2) L3 e w'):=aA0 fun W hW=>by
     have hbs:∀b,b<base→W.heap[b]?=w.heap[b]?:=fun b hb=>(hW.block b (by have:=HBL.out;omega)).trans (hb3 b hb)
     have h:=IH gof s.kids W sa sc L2 (.slice a2 L2.length c2) HFK.out (HKD.out.mono fun b hb=>(hbs b hb).trans (hbb b hb).symm) (HP.out.mono fun b hb=>hbs b hb) (GW.out.1.keep fun b hb=>hW.block b (GW.out.1.1.lt b hb).2) (by have:=HBL.out;have:=hW.size;omega) hs1 (by omega)
     rw[HNL.out] at h
     exact h
    have HC3:Hid (∀W,Below w3.heap.size w3 W→W.cell? ⟨w.heap.size,0,none⟩=some c0∧W.cell? ⟨w.heap.size,1,none⟩=some c1∧W.cell? ⟨fb,1,none⟩=some (.string gof)∧W.cell? ⟨kb,koff+k*5+4,none⟩=some (.slice sa s.kids.length sc)):=aA0 fun W hW=>(HC2.out W _ (GW.out.2.trans (Grew.below _ hW))).1
    have HC4:Hid (∀W W' v',Below w3.heap.size w3 W→Grew W (.slice a2 L2.length c2) W' v'→W'.cell? ⟨w.heap.size,0,none⟩=some c0∧W'.cell? ⟨w.heap.size,1,none⟩=some c1∧W'.cell? ⟨fb,1,none⟩=some (.string gof)∧W'.cell? ⟨kb,koff+k*5+4,none⟩=some (.slice sa s.kids.length sc)):=aA0 fun W W' v' hW hG=>(HC2.out W' _ (GW.out.2.trans ((Grew.below _ hW).trans hG))).1
    have HNL:=HSU
    go_wp2_with fail
    refine wp_region_held_drew (S:=(fun w'=>w'.cell? ⟨w.heap.size,0,none⟩=some c0∧w'.cell? ⟨w.heap.size,1,none⟩=some c1∧w'.cell? ⟨fb,1,none⟩=some (.string gof)∧w'.cell? ⟨kb,koff+k*5+4,none⟩=some (.slice sa s.kids.length sc))) (by kernel_rfl) (HC3.out _ (Below.refl _ _).drew) (fun hHeld=>?_)
    have bX:Below w3.heap.size w3 w3.drew:=(Below.refl _ _).drew
    generalize w3.drew=wD at*
    refine tkH 0 hHeld ?_
    refine tkH 1 hHeld ?_
    refine tkH 2 hHeld ?_
    refine tkH 3 hHeld ?_
    refine tkH 4 hHeld ?_
    refine tkH 5 hHeld ?_
    refine tkH 6 hHeld ?_
    refine tkH 7 hHeld ?_
    refine tkH 8 hHeld ?_
    refine rdyH [9] ?_
    refine rcH (fun K hK=>?_) AllReadyH.nil
    go_simp
    refine(HREC.out wD bX).mono ?_
    rintro e wK ⟨ka3,kc3,rfl,hRK,hGK⟩
    have bXX:=bX
    refine hK.out _ _ (HC4.out _ _ _ bX hGK) (fun hHeld=>?_)
    clear hK K
    try simp only[Act.put,List.setIfInBounds_toArray,List.set_cons_zero,List.set_cons_succ]
    refine tkH 10 hHeld ?_
    refine wpAnyH_done (by kernel_rfl) ?_ _
    have bZK:=(HGZ.out.trans (Grew.below _ bx)).trans (GW.out.2.trans ((Grew.below _ bXX).trans hGK))
    go_wp2_with fail
    go_roundw
    case measure=>simp[intOf];omega
    case rel=>exact⟨k+1,L3,ka3,kc3,by omega,by simp,by go_num,HNL,aA0 ⟨hRK,bZK⟩⟩
end Go.Proofs.YtokmgbidmnanpaaGreatDoor
namespace Go.Proofs.YtokmgbidmnanpaaGreatDoor
open Go.RowKit Go.Shelf Go.Maps
attribute [local go_sem] Oper.semAt_some aIT
theorem aOR{base g:Nat}{w:World}(hg:base≤g)(h:w.heap[g]?=some (.cells #[] 9 (0,0))):Row9 base w (.slice (some ⟨g,0,none⟩) 0 0) []:=
 ⟨⟨rfl,Or.inr ⟨g,0,_,rfl,hg,h,Nat.le_refl _,by unfold maxLen;omega,rfl,rfl⟩⟩,fun i=>by simp[nth,maxLen],by simp⟩
set_option maxRecDepth 20000 in
set_option maxHeartbeats 1600000 in
theorem aK4(f:Nat)(p:Pt)(ks:List Se)(ka:Option Addr)(kc:Nat)(v:Value)(w:World)(hf:FitS f ks)(hR:aAA w (·<w.heap.size) ks ka)(hfew:f≤1000000000)(hP:PRep w (·<w.heap.size) p v)(hz:szP p≤1048576):
  Calls Tryz.prog 31 #[v,.slice ka ks.length kc] w fun e w'=>aNA w (aAM f p ks) e w':=by
 have hP':=hP
 obtain⟨ta,tc,rfl,-,-,-⟩:=hP
 have bX:=aA2 w (.cells #[.string p.name,.slice ta p.types.length tc] 43)
 have zX:(w.alloc (.cells #[.string p.name,.slice ta p.types.length tc] 43)).heap.size=w.heap.size+1:=by simp
 have nX:=heap_alloc_new w (.cells #[.string p.name,.slice ta p.types.length tc] 43)
 have HU:Hid (∀W,Below w.heap.size w W→aAA W (·<W.heap.size) ks ka∧PRep W (·<W.heap.size) p (.agg #[.string p.name,.slice ta p.types.length tc])):=aA0 fun W hW=>⟨(hR.under hW).sub fun b hb=>Nat.lt_of_lt_of_le hb hW.size,(hP'.under hW).sub fun b hb=>Nat.lt_of_lt_of_le hb hW.size⟩
 have HV:Hid (∀W,Below w.heap.size w W→aAA W (·<w.heap.size) ks ka∧PRep W (·<w.heap.size) p (.agg #[.string p.name,.slice ta p.types.length tc])):=aA0 fun W hW=>⟨hR.under hW,hP'.under hW⟩
 obtain⟨code,hcode⟩:∃code,code=aCE (aBM f p ks):=⟨_,rfl⟩
 have HC:Hid (∀W,Below w.heap.size w W→Calls Tryz.prog 33 #[.agg #[.string p.name,.slice ta p.types.length tc],.slice ka ks.length kc] W fun e w'=>∃a n c,e=.returned (.agg #[.slice a n c,.int .i64 code])∧Below W.heap.size W w'):=aA0 fun W hW=>(aEZ f p ks ka kc _ W hf (HU.out W hW).1 hfew (HU.out W hW).2 hz).mono fun e w' h=>by
  obtain⟨a,c,h1,-,h3⟩:=h
  exact⟨a,_,c,by rw[h1,hcode],h3⟩
 clear hR hP'
 by_cases hc0:code=0
 case neg=>
  have HE:Hid (aAM f p ks=[]):=aA0 (by rw[aAM,←hcode,if_neg hc0])
  have hcb:(code==0)=false:=by simpa using hc0
  have hcn:(code !=0)=true:=by simpa using hc0
  clear hcode nX
  go_enter Tryz.func31,Tryz.ntmps31
  go_wp2_with (go_at_call 33;refine(HC.out _ bX).mono ?_;rintro e w1 ⟨a1,n1,c1,rfl,hb1⟩;have b01:=bX.trans (hb1.mono (by omega)))
  go_ret
  rw[HE.out]
  exact⟨some ⟨w1.heap.size,0,none⟩,0,rfl,aOR b01.size (aA3 _ _ rfl),b01.trans ((aA2 w1 _).mono b01.size)⟩
 subst hc0
 have HE:Hid (aAM f p ks=aAD p f qry ks ks.length []):=aA0 (by rw[aAM,←hcode,if_pos rfl])
 have hcnt:aBX f ks ks.length*1048577≤24*1048577:=by
  have hok:okP p=true∧aDH f ks=true:=by
   have h:=hcode.symm
   unfold aBM at h
   split at h
   ·assumption
   ·simp[aCE] at h
  have hc:aBX f ks ks.length≤24:=by
   have:=hok.2
   simp only[aDH,askB,Bool.and_eq_true,decide_eq_true_eq] at this
   exact this.1.2
  exact Nat.mul_le_mul_right _ hc
 have HL:Hid (∀W,Below w.heap.size w W→Calls Tryz.prog 67 #[.agg #[.string p.name,.slice ta p.types.length tc],.string (⟨#[113,117,101,114,121]⟩:ByteArray),.slice ka ks.length kc,.slice (some ⟨W.heap.size,0,none⟩) 0 0] (W.alloc (.cells #[] 9)) fun e w'=>aNA w (aAM f p ks) e w'):=aA0 fun W hW=>by
  have bW:=hW.trans ((aA2 W (.cells #[] 9)).mono hW.size)
  rw[HE.out]
  refine(aLP p hz _ _ w.heap.size f qry ks (W.alloc (.cells #[] 9)) ka kc [] (.slice (some ⟨W.heap.size,0,none⟩) 0 0) hf (HV.out _ bW).1 (HV.out _ bW).2 (aOR hW.size (aA3 _ _ rfl)) bW.size (by decide) (by simp only[List.length_nil];omega)).mono fun e w' h=>?_
  obtain⟨a,c,h1,h2,h3⟩:=h
  exact⟨a,c,h1,h2,h3.on bW (fun k hk=>by simp only[Value.ownBlock,Option.some.injEq] at hk;have:=hW.size;omega) (Nat.le_refl _)⟩
 generalize aAM f p ks=L at*
 clear hcode HE hcnt
 have HXP:Hid (∀W',Below (w.heap.size+1) (w.alloc (.cells #[.string p.name,.slice ta p.types.length tc] 43)) W'→W'.cell? ⟨w.heap.size,0,none⟩=some (.string p.name)∧W'.cell? ⟨w.heap.size,1,none⟩=some (.slice ta p.types.length tc)):=aA0 fun W' hW=>by
  have hp:=(hW.block _ (by omega)).trans nX
  exact⟨(aA1 hp 0 (by simp)).1,(aA1 hp 1 (by simp)).1⟩
 clear nX
 go_enter Tryz.func31,Tryz.ntmps31
 go_wp2_with (first
  |(go_at_call 33;refine(HC.out _ bX).mono ?_;rintro e w1 ⟨a1,n1,c1,rfl,hb1⟩;have b01:=bX.trans (hb1.mono (by omega));obtain⟨x0,x1⟩:=HXP.out w1 (by rw[zX] at hb1;exact hb1))
  |(go_at_call 67;refine(HL.out w1 b01).mono ?_;rintro e w2 ⟨a2,c2,rfl,hR2,hb2⟩))
 go_ret
 exact⟨a2,c2,rfl,hR2,hb2⟩
end Go.Proofs.YtokmgbidmnanpaaGreatDoor
