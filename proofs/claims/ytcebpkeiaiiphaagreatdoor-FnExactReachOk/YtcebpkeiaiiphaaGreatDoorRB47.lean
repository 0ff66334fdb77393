import Derived.Test.YtcebpkeiaiiphaaGreatDoorRB46
set_option linter.unusedSimpArgs false
set_option linter.unusedVariables false
namespace Go.Proofs.YtcebpkeiaiiphaaGreatDoor
open Go.RowKit Go.Maps
theorem aFD(p:Pt)(nm:ByteArray)(w:World)(B:Nat)(v:Value)(hP:PRep w (·<B) p v)(hB:B≤w.heap.size):
  Calls Tryz.prog 55 #[v,.string nm] w fun e w'=>∃(fa:Option Addr) (fc:Nat),e=.returned (.tuple #[.agg #[.string (aA7 p nm).name,.string (aA7 p nm).key,.slice fa (aA7 p nm).fields.length fc],.bool (decide (0≤aAS p nm))])∧Below w.heap.size w w'∧TRep w' (·<B) (aA7 p nm) (.agg #[.string (aA7 p nm).name,.string (aA7 p nm).key,.slice fa (aA7 p nm).fields.length fc]):=
 (aHS p w B v nm hP hB).mono fun e w' h=>by
  obtain⟨n1,k1,fa,fl,fc,he,hb,ht⟩:=h
  have ht':=ht
  obtain⟨fa',fc',hv,-⟩:=ht
  rw[hv] at he ht'
  exact⟨fa',fc',he,hb,ht'⟩
theorem aKU(t:T)(n:ByteArray)(w:World)(B:Nat)(v:Value)(hT:TRep w (·<B) t v)(hB:B≤w.heap.size):
  Calls Tryz.prog 98 #[v,.string n] w fun e w'=>∃(na:Option Addr) (nc:Nat),e=.returned (.tuple #[fval (aB9 t n) na nc,.bool (decide (0≤aAC t n))])∧Below w.heap.size w w'∧FRep w' (·<B) (aB9 t n) (fval (aB9 t n) na nc):=
 (aDH t w B v n hT hB).mono fun e w' h=>by
  obtain⟨n1,o1,l1,m1,f1,h1,s1,na,nl,nc,he,hb,hf⟩:=h
  have hf':=hf
  obtain⟨na',nc',hv,-⟩:=hf
  rw[hv] at he hf'
  exact⟨na',nc',he,hb,hf'⟩
theorem aIB(FW:World)(tmps:Array Value)(N:Nat)(v0 v1 v2 v3 v4 v5 v6 v7 ok:Value)(h6:tmps.getD 6 undef=.pointer (some ⟨N,0,none⟩))(h7:tmps.getD 7 undef=ok)
  (hN:FW.heap[N]?=some (.cells #[v0,v1,v2,v3,v4,v5,v6,v7] 80 (0,0))):
  (results Tryz.f119 tmps).run Tryz.prog FW=.ok (.tuple #[.agg #[v0,v1,v2,v3,v4,v5,v6,v7],ok]) FW:=by
 have d0:=(aA1 hN 0 (by simp)).1
 have d1:=(aA1 hN 1 (by simp)).1
 have d2:=(aA1 hN 2 (by simp)).1
 have d3:=(aA1 hN 3 (by simp)).1
 have d4:=(aA1 hN 4 (by simp)).1
 have d5:=(aA1 hN 5 (by simp)).1
 have d6:=(aA1 hN 6 (by simp)).1
 have d7:=(aA1 hN 7 (by simp)).1
 simp only[List.getElem_toArray,List.getElem_cons_zero,List.getElem_cons_succ] at d0 d1 d2 d3 d4 d5 d6 d7
 simp only[Array.getD_eq_getD_getElem?] at h6 h7
 simp[results,Tryz.results119,go_sem,h6,h7,d0,d1,d2,d3,d4,d5,d6,d7]
set_option maxRecDepth 20000 in
set_option maxHeartbeats 1600000 in
theorem aHB(ps:List Pt)(w:World)(B:Nat)(a:Option Addr)(c:Nat)(s:ByteArray)(ta:Option Addr)(tn tc:Nat)(i:Nat)(hi:i<ps.length)(nm:ByteArray)(hR:aAZ w (·<B) ps a)(hB:B≤w.heap.size):
  Calls Tryz.prog 120 #[.agg #[.slice a ps.length c,.string s,.slice ta tn tc],.int .i64 i,.string nm] w fun e w'=>e=.returned (.bool (aCT (pth ps i) nm))∧Below w.heap.size w w':=by
 obtain⟨pb,po,pta,ptc,rfl,hpB,q0,q1,hP⟩:=hR.at i hi
 have hii:(i:Int)<(ps.length:Int):=by omega
 obtain⟨pl,hpl⟩:∃x,x=ps.length:=⟨_,rfl⟩
 rw[←hpl] at hii ⊢
 have bX:=aA2 w (.cells #[.slice (some ⟨pb,po,none⟩) pl c,.string s,.slice ta tn tc] 61)
 have nX:=aA3 (w:=w) (N:=w.heap.size) #[.slice (some ⟨pb,po,none⟩) pl c,.string s,.slice ta tn tc] 61 rfl
 have zX:(w.alloc (.cells #[.slice (some ⟨pb,po,none⟩) pl c,.string s,.slice ta tn tc] 61)).heap.size=w.heap.size+1:=by simp
 have HFT:=aA0 (aFD (pth ps i) nm _ B _ (hP.under (bX.mono hB)) (by omega))
 replace q0:=(bX.cell (aAA q0)).trans q0
 replace q1:=(bX.cell (aAA q1)).trans q1
 have HK:Hid (aCT (pth ps i) nm=!(aA7 (pth ps i) nm).key.toList.isEmpty):=aA0 rfl
 generalize aCT (pth ps i) nm=kb at*
 generalize pth ps i=p at*
 generalize aA7 p nm=t at*
 obtain⟨tnm,ky,tfs⟩:=t
 simp only at HFT HK
 clear hpl hP hR hi
 rw[HK.out]
 have HZX:=aA0 zX
 clear zX
 obtain⟨c0,-⟩:=aA1 nX 0 (by simp)
 simp only[List.getElem_toArray,List.getElem_cons_zero] at c0
 go_enter Tryz.func120,Tryz.ntmps120
 go_upto_region 1 with fail
 generalize w.alloc (.cells #[.slice (some ⟨pb,po,none⟩) pl c,.string s,.slice ta tn tc] 61)=X at*
 cases hke:ky.toList.isEmpty
 all_goals
  go_wp2_with (go_at_call 55;refine HFT.out.mono ?_;rintro e w1 ⟨fa,fc,rfl,hb1,-⟩)
  go_ret
  exact⟨by first| rfl| (rw[hke]<;>rfl),(bX.trans (hb1.mono bX.size)).alloc (by have:=(bX.trans (hb1.mono bX.size)).size;omega) _⟩
set_option maxRecDepth 20000 in
set_option maxHeartbeats 3200000 in
theorem aMP(ps:List Pt)(w:World)(B:Nat)(a:Option Addr)(c:Nat)(s:ByteArray)(ta:Option Addr)(tn tc:Nat)(i:Nat)(hi:i<ps.length)(nm n:ByteArray)(hR:aAZ w (·<B) ps a)(hB:B≤w.heap.size):
  Calls Tryz.prog 119 #[.agg #[.slice a ps.length c,.string s,.slice ta tn tc],.int .i64 i,.agg #[.string nm,.string n]] w fun e w'=>∃(na:Option Addr) (nc:Nat),e=.returned (.tuple #[fval (sayF (pth ps i) nm n) na nc,.bool (aG7 (pth ps i) nm n)])∧Below w.heap.size w w'∧FRep w' (·<B) (sayF (pth ps i) nm n) (fval (sayF (pth ps i) nm n) na nc):=by
 obtain⟨pb,po,pta,ptc,rfl,hpB,q0,q1,hP⟩:=hR.at i hi
 have hii:(i:Int)<(ps.length:Int):=by omega
 obtain⟨pl,hpl⟩:∃x,x=ps.length:=⟨_,rfl⟩
 rw[←hpl] at hii ⊢
 have bX:=((aA5 w (.cells #[.slice (some ⟨pb,po,none⟩) pl c,.string s,.slice ta tn tc] 61) (.cells #[.string nm,.string n] 153))).alloc (by simp;omega) (.cells #[.string ⟨#[]⟩,.string ⟨#[]⟩,.bool false,.bool false,.bool false,.bool false,.bool false,.slice none 0 0] 80)
 have zX:(((w.alloc (.cells #[.slice (some ⟨pb,po,none⟩) pl c,.string s,.slice ta tn tc] 61)).alloc (.cells #[.string nm,.string n] 153)).alloc (.cells #[.string ⟨#[]⟩,.string ⟨#[]⟩,.bool false,.bool false,.bool false,.bool false,.bool false,.slice none 0 0] 80)).heap.size=w.heap.size+1+1+1:=by simp
 have n0:(((w.alloc (.cells #[.slice (some ⟨pb,po,none⟩) pl c,.string s,.slice ta tn tc] 61)).alloc (.cells #[.string nm,.string n] 153)).alloc (.cells #[.string ⟨#[]⟩,.string ⟨#[]⟩,.bool false,.bool false,.bool false,.bool false,.bool false,.slice none 0 0] 80)).heap[w.heap.size]?=some (.cells #[.slice (some ⟨pb,po,none⟩) pl c,.string s,.slice ta tn tc] 61 (0,0)):=by
  rw[(aA5 _ _ _).block _ (by simp)]
  exact aA3 _ _ rfl
 have n1:(((w.alloc (.cells #[.slice (some ⟨pb,po,none⟩) pl c,.string s,.slice ta tn tc] 61)).alloc (.cells #[.string nm,.string n] 153)).alloc (.cells #[.string ⟨#[]⟩,.string ⟨#[]⟩,.bool false,.bool false,.bool false,.bool false,.bool false,.slice none 0 0] 80)).heap[w.heap.size+1]?=some (.cells #[.string nm,.string n] 153 (0,0)):=by
  rw[(aA2 _ _).block _ (by simp)]
  exact aA3 _ _ (by simp)
 have n2:(((w.alloc (.cells #[.slice (some ⟨pb,po,none⟩) pl c,.string s,.slice ta tn tc] 61)).alloc (.cells #[.string nm,.string n] 153)).alloc (.cells #[.string ⟨#[]⟩,.string ⟨#[]⟩,.bool false,.bool false,.bool false,.bool false,.bool false,.slice none 0 0] 80)).heap[w.heap.size+1+1]?=some (.cells #[.string ⟨#[]⟩,.string ⟨#[]⟩,.bool false,.bool false,.bool false,.bool false,.bool false,.slice none 0 0] 80 (0,0)):=aA3 _ _ (by simp)
 have HFT:=aA0 (fun W (hW:Below w.heap.size w W)=>aFD (pth ps i) nm W B _ (hP.under (hW.mono hB)) (by have:=hW.size;omega))
 have HFF:=aA0 (fun W v (hT:TRep W (·<B) (aA7 (pth ps i) nm) v) (hB:B≤W.heap.size)=>aKU (aA7 (pth ps i) nm) n W B v hT hB)
 have HKB:Hid (aG7 (pth ps i) nm n=(decide (0≤aAC (aA7 (pth ps i) nm) n)&&!(aB9 (aA7 (pth ps i) nm) n).far)):=aA0 rfl
 have HSF:Hid (sayF (pth ps i) nm n=aB9 (aA7 (pth ps i) nm) n):=aA0 rfl
 have HQ:Hid (∀W,Below w.heap.size w W→W.cell? ⟨pb,po+i*2,none⟩=some (.string (pth ps i).name)∧W.cell? ⟨pb,po+i*2+1,none⟩=some (.slice pta (pth ps i).types.length ptc)):=aA0 fun W hW=>⟨(hW.cell (aAA q0)).trans q0,(hW.cell (aAA q1)).trans q1⟩
 rw[HSF.out]
 generalize aG7 (pth ps i) nm n=kb at*
 generalize pth ps i=p at*
 generalize decide (0≤aAC (aA7 p nm) n)=kn at*
 generalize aB9 (aA7 p nm) n=g at*
 generalize aA7 p nm=t at*
 obtain⟨tnm,ky,tfs⟩:=t
 obtain⟨gn,gof,gl,gm,gfr,gh,gs,gd⟩:=g
 simp only[fval] at HFT HFF HKB HSF ⊢
 clear hpl hP hR hi q0 q1 HSF
 have HBW:=aA0 hB
 go_enter Tryz.func119,Tryz.ntmps119
 go_upto_region 1 with fail
 generalize ((w.alloc (.cells #[.slice (some ⟨pb,po,none⟩) pl c,.string s,.slice ta tn tc] 61)).alloc (.cells #[.string nm,.string n] 153)).alloc (.cells #[.string ⟨#[]⟩,.string ⟨#[]⟩,.bool false,.bool false,.bool false,.bool false,.bool false,.slice none 0 0] 80)=X at*
 have HX:Hid (∀W,Below X.heap.size X W→(W.cell? ⟨w.heap.size,0,none⟩=some (.slice (some ⟨pb,po,none⟩) pl c)∧W.cell? ⟨w.heap.size+1,0,none⟩=some (.string nm)∧W.cell? ⟨w.heap.size+1,1,none⟩=some (.string n))∧W.heap[w.heap.size+1+1]?=some (.cells #[.string ⟨#[]⟩,.string ⟨#[]⟩,.bool false,.bool false,.bool false,.bool false,.bool false,.slice none 0 0] 80 (0,0))∧Below w.heap.size w W∧w.heap.size+1+1<W.heap.size):=aA0 fun W hW=>by
  have h0:=(hW.block w.heap.size (by omega)).trans n0
  have h1:=(hW.block (w.heap.size+1) (by omega)).trans n1
  have h2:=(hW.block (w.heap.size+1+1) (by omega)).trans n2
  have:=hW.size
  exact⟨⟨(aA1 h0 0 (by simp)).1,(aA1 h1 0 (by simp)).1,(aA1 h1 1 (by simp)).1⟩,h2,bX.trans (hW.mono bX.size),by omega⟩
 have HS:Hid (∀W,Below X.heap.size X W→W.cell? ⟨w.heap.size,0,none⟩=some (.slice (some ⟨pb,po,none⟩) pl c)∧W.cell? ⟨w.heap.size+1,0,none⟩=some (.string nm)∧W.cell? ⟨pb,po+i*2,none⟩=some (.string p.name)∧W.cell? ⟨pb,po+i*2+1,none⟩=some (.slice pta p.types.length ptc)):=aA0 fun W hW=>⟨(HX.out W hW).1.1,(HX.out W hW).1.2.1,HQ.out W (HX.out W hW).2.2.1⟩
 clear n0 n1 n2 zX bX hB
 generalize p.types.length=ptl at*
 generalize p.name=pnm at*
 go_cut [8,9] (fun r o wx=>∃(fb:Nat) (fa:Option Addr) (fc:Nat),r=.pointer (some ⟨fb,0,none⟩)∧Hid (wx.heap[fb]?=some (.cells #[.string tnm,.string ky,.slice fa tfs.length fc] 96 (0,0))∧TRep wx (·<B) ⟨tnm,ky,tfs⟩ (.agg #[.string tnm,.string ky,.slice fa tfs.length fc]))∧Below X.heap.size X wx)
 case first=>
  refine wp_region_held_drew (S:=(fun W=>W.cell? ⟨w.heap.size,0,none⟩=some (.slice (some ⟨pb,po,none⟩) pl c)∧W.cell? ⟨w.heap.size+1,0,none⟩=some (.string nm)∧W.cell? ⟨pb,po+i*2,none⟩=some (.string pnm)∧W.cell? ⟨pb,po+i*2+1,none⟩=some (.slice pta ptl ptc))) (by kernel_rfl) (HS.out _ (Below.refl _ _).drew) (fun hHeld=>?_)
  have bX:Below X.heap.size X X.drew:=(Below.refl _ _).drew
  generalize X.drew=wD at*
  refine tkH 0 hHeld ?_
  refine tkH 1 hHeld ?_
  refine tkH 2 hHeld ?_
  refine tkH 3 hHeld ?_
  refine tkH 4 hHeld ?_
  refine tkH 5 hHeld ?_
  refine tkH 6 hHeld ?_
  refine rdyH [7,11] ?_
  refine rcH (fun K hK=>?_) ?_
  ·go_simp
   refine(HFT.out wD (HX.out wD bX).2.2.1).mono ?_
   rintro e wK ⟨fa,fc,rfl,bK,hTR⟩
   have HTR:=aA0 hTR
   clear hTR
   have bX:=bX.trans (bK.mono bX.size)
   refine hK.out _ _ (HS.out _ bX) (fun hHeld=>?_)
   clear hK K
   try simp only[Act.put,sIA,sI0,sIS]
   refine tkH 8 hHeld ?_
   refine tkH 9 hHeld ?_
   refine tkH 10 hHeld ?_
   refine rdyH [11] ?_
   refine rcH (fun K hK=>?_) AllReadyH.nil
   go_simp
   have bE:=aA2 wK (.cells #[.string ⟨#[]⟩,.string ⟨#[]⟩,.slice none 0 0] 96)
   have nE:=aA3 (w:=wK) #[.string ⟨#[]⟩,.string ⟨#[]⟩,.slice none 0 0] 96 rfl
   have qE:X.heap.size≤wK.heap.size:=bX.size
   have zE:wK.heap.size<(wK.alloc (.cells #[.string ⟨#[]⟩,.string ⟨#[]⟩,.slice none 0 0] 96)).heap.size:=by simp
   have bX0:=bX
   have bX:=bX.trans (bE.mono bX.size)
   have HTR:=aA0 (HTR.out.under (bE.mono (Nat.le_trans HBW.out (HX.out wK bX0).2.2.1.size)))
   refine hK.out _ _ (HS.out _ bX) (fun hHeld=>?_)
   clear hK K
   try simp only[Act.put,sIA,sI0,sIS]
   generalize wK.alloc (.cells #[.string ⟨#[]⟩,.string ⟨#[]⟩,.slice none 0 0] 96)=wE at*
   refine rdyH [12] ?_
   refine rcH (fun K hK=>?_) AllReadyH.nil
   obtain⟨y0,g0⟩:=aA1 nE 0 (by simp)
   obtain⟨y1,g1⟩:=aA1 nE 1 (by simp)
   obtain⟨y2,g2⟩:=aA1 nE 2 (by simp)
   go_simp
   refine hK.out _ _ (HS.out _ (aB7 bX qE _ _ _)) (fun hHeld=>?_)
   clear hK K
   try simp only[Act.put,sIA,sI0,sIS]
   refine tkH 13 hHeld ?_
   refine wpAnyH_done (by kernel_rfl) ?_ _
   go_wp2_with fail
   go_meet
   case rel=>
    refine⟨_,fa,fc,rfl,aA0 ⟨aDG nE _ _ _,HTR.out.mono fun b hb=>aD3 ?_ _ _ _ _⟩,aB7 bX qE _ _ _⟩
    have hb:b<B:=hb
    have:=HBW.out
    have:=(HX.out X (Below.refl _ _)).2.2.1.size
    omega
  refine rcH (fun K hK=>?_) AllReadyH.nil
  go_simp
  have bE:=aA2 wD (.cells #[.string ⟨#[]⟩,.string ⟨#[]⟩,.slice none 0 0] 96)
  have nE:=aA3 (w:=wD) #[.string ⟨#[]⟩,.string ⟨#[]⟩,.slice none 0 0] 96 rfl
  have qE:X.heap.size≤wD.heap.size:=bX.size
  have zE:wD.heap.size<(wD.alloc (.cells #[.string ⟨#[]⟩,.string ⟨#[]⟩,.slice none 0 0] 96)).heap.size:=by simp
  have bX0:=bX
  have bX:=bX.trans (bE.mono bX.size)
  refine hK.out _ _ (HS.out _ bX) (fun hHeld=>?_)
  clear hK K
  try simp only[Act.put,sIA,sI0,sIS]
  generalize wD.alloc (.cells #[.string ⟨#[]⟩,.string ⟨#[]⟩,.slice none 0 0] 96)=wE at*
  refine rdyH [7] ?_
  refine rcH (fun K hK=>?_) AllReadyH.nil
  go_simp
  refine(HFT.out wE (HX.out wE bX).2.2.1).mono ?_
  rintro e wK ⟨fa,fc,rfl,bK,hTR⟩
  have HTR:=aA0 hTR
  clear hTR
  have bX:=bX.trans (bK.mono bX.size)
  have nE:=(bK.block _ zE).trans nE
  have zE:=Nat.lt_of_lt_of_le zE bK.size
  refine hK.out _ _ (HS.out _ bX) (fun hHeld=>?_)
  clear hK K
  try simp only[Act.put,sIA,sI0,sIS]
  refine tkH 8 hHeld ?_
  refine tkH 9 hHeld ?_
  refine tkH 10 hHeld ?_
  refine rdyH [12] ?_
  refine rcH (fun K hK=>?_) AllReadyH.nil
  obtain⟨y0,g0⟩:=aA1 nE 0 (by simp)
  obtain⟨y1,g1⟩:=aA1 nE 1 (by simp)
  obtain⟨y2,g2⟩:=aA1 nE 2 (by simp)
  go_simp
  refine hK.out _ _ (HS.out _ (aB7 bX qE _ _ _)) (fun hHeld=>?_)
  clear hK K
  try simp only[Act.put,sIA,sI0,sIS]
  refine tkH 13 hHeld ?_
  refine wpAnyH_done (by kernel_rfl) ?_ _
  go_wp2_with fail
  go_meet
  case rel=>
   refine⟨_,fa,fc,rfl,aA0 ⟨aDG nE _ _ _,HTR.out.mono fun b hb=>aD3 ?_ _ _ _ _⟩,aB7 bX qE _ _ _⟩
   have hb:b<B:=hb
   have:=HBW.out
   have:=(HX.out X (Below.refl _ _)).2.2.1.size
   omega
 case rest=>
  obtain⟨fb,fa,fc,rfl,HT,bx⟩:=hcut
  obtain⟨wx,rfl⟩:∃x,x=wc:=⟨wc,rfl⟩
  have t0:=(aA1 HT.out.1 0 (by simp)).1
  have t1:=(aA1 HT.out.1 1 (by simp)).1
  have t2:=(aA1 HT.out.1 2 (by simp)).1
  simp only[List.getElem_toArray,List.getElem_cons_zero,List.getElem_cons_succ] at t0 t1 t2
  obtain⟨⟨-,-,k1⟩,-,bwx,-⟩:=HX.out wx bx
  have HF1:=aA0 (HFF.out wx _ HT.out.2 (by have:=HBW.out;have:=bwx.size;omega))
  clear HFF HFT HQ HS
  go_upto_region 3 with(
   go_at_call 98
   refine HF1.out.mono ?_
   rintro e w2 ⟨na,nc,rfl,hb2,hfr⟩)
  have bF:=aA2 w2 (.cells #[.string gn,.string gof,.bool gl,.bool gm,.bool gfr,.bool gh,.bool gs,.slice na gd.length nc] 80)
  have nF:=aA3 (w:=w2) (N:=w2.heap.size) #[.string gn,.string gof,.bool gl,.bool gm,.bool gfr,.bool gh,.bool gs,.slice na gd.length nc] 80 rfl
  have zF:(w2.alloc (.cells #[.string gn,.string gof,.bool gl,.bool gm,.bool gfr,.bool gh,.bool gs,.slice na gd.length nc] 80)).heap.size=w2.heap.size+1:=by simp
  have bX2:=bx.trans (hb2.mono bx.size)
  have bX3:=bX2.trans (bF.mono bX2.size)
  have HFR:=aA0 (hfr.under (bF.mono (by have:=HBW.out;have:=(bwx.trans (hb2.mono bwx.size)).size;omega)))
  clear t0 t1 t2 k1 hfr HT HF1 bwx
  generalize w2.alloc (.cells #[.string gn,.string gof,.bool gl,.bool gm,.bool gfr,.bool gh,.bool gs,.slice na gd.length nc] 80)=Y at*
  have hzX:=bX2.size
  have HBX:Hid (∀W,Below Y.heap.size Y W→W.heap[w.heap.size+1+1]?=some (.cells #[.string ⟨#[]⟩,.string ⟨#[]⟩,.bool false,.bool false,.bool false,.bool false,.bool false,.slice none 0 0] 80 (0,0))∧(W.cell? ⟨w2.heap.size,0,none⟩=some (.string gn)∧W.cell? ⟨w2.heap.size,1,none⟩=some (.string gof)∧W.cell? ⟨w2.heap.size,2,none⟩=some (.bool gl)∧W.cell? ⟨w2.heap.size,3,none⟩=some (.bool gm)∧W.cell? ⟨w2.heap.size,4,none⟩=some (.bool gfr)∧W.cell? ⟨w2.heap.size,5,none⟩=some (.bool gh)∧W.cell? ⟨w2.heap.size,6,none⟩=some (.bool gs)∧W.cell? ⟨w2.heap.size,7,none⟩=some (.slice na gd.length nc))):=aA0 fun W hW=>by
   have h:=(hW.block w2.heap.size (by omega)).trans nF
   exact⟨(HX.out W (bX3.trans (hW.mono bX3.size))).2.1,(aA1 h 0 (by simp)).1,(aA1 h 1 (by simp)).1,(aA1 h 2 (by simp)).1,(aA1 h 3 (by simp)).1,(aA1 h 4 (by simp)).1,(aA1 h 5 (by simp)).1,(aA1 h 6 (by simp)).1,(aA1 h 7 (by simp)).1⟩
  have HW3:=aA0 (HX.out Y bX3).2.2
  have HNE:Hid (w.heap.size+1+1≠w2.heap.size):=aA0 (by have:=(HX.out w2 bX2).2.2.2;omega)
  have HFIN:Hid (∀W,Below Y.heap.size Y W→∃(na':Option Addr) (nc':Nat),Ending.returned (.tuple #[.agg #[.string gn,.string gof,.bool gl,.bool gm,.bool gfr,.bool gh,.bool gs,.slice na gd.length nc],.bool kb])=.returned (.tuple #[.agg #[.string gn,.string gof,.bool gl,.bool gm,.bool gfr,.bool gh,.bool gs,.slice na' gd.length nc'],.bool kb])∧Below w.heap.size w (((((((((W.setCell ⟨w.heap.size+1+1,0,none⟩ (.string gn)).setCell ⟨w.heap.size+1+1,1,none⟩ (.string gof)).setCell ⟨w.heap.size+1+1,2,none⟩ (.bool gl)).setCell ⟨w.heap.size+1+1,3,none⟩ (.bool gm)).setCell ⟨w.heap.size+1+1,4,none⟩ (.bool gfr)).setCell ⟨w.heap.size+1+1,5,none⟩ (.bool gh)).setCell ⟨w.heap.size+1+1,6,none⟩ (.bool gs)).setCell ⟨w.heap.size+1+1,7,none⟩ (.slice na gd.length nc)))∧FRep ((((((((W.setCell ⟨w.heap.size+1+1,0,none⟩ (.string gn)).setCell ⟨w.heap.size+1+1,1,none⟩ (.string gof)).setCell ⟨w.heap.size+1+1,2,none⟩ (.bool gl)).setCell ⟨w.heap.size+1+1,3,none⟩ (.bool gm)).setCell ⟨w.heap.size+1+1,4,none⟩ (.bool gfr)).setCell ⟨w.heap.size+1+1,5,none⟩ (.bool gh)).setCell ⟨w.heap.size+1+1,6,none⟩ (.bool gs)).setCell ⟨w.heap.size+1+1,7,none⟩ (.slice na gd.length nc)) (·<B) ⟨gn,gof,gl,gm,gfr,gh,gs,gd⟩ (.agg #[.string gn,.string gof,.bool gl,.bool gm,.bool gfr,.bool gh,.bool gs,.slice na' gd.length nc'])):=aA0 fun W hW=>by
   have hB:=HBW.out
   have hs:=HW3.out.1.size
   refine⟨na,nc,rfl,aAJ (HW3.out.1.trans (hW.mono hs)) (by omega) _ _ _ _ _ _ _ _,?_⟩
   refine(HFR.out.under (hW.mono (by omega))).mono fun b hb=>aDL (by omega) _ _ _ _ _ _ _ _ _
  have HST:Hid (∀W,Below Y.heap.size Y W→((((((((W.setCell ⟨w.heap.size+1+1,0,none⟩ (.string gn)).setCell ⟨w.heap.size+1+1,1,none⟩ (.string gof)).setCell ⟨w.heap.size+1+1,2,none⟩ (.bool gl)).setCell ⟨w.heap.size+1+1,3,none⟩ (.bool gm)).setCell ⟨w.heap.size+1+1,4,none⟩ (.bool gfr)).setCell ⟨w.heap.size+1+1,5,none⟩ (.bool gh)).setCell ⟨w.heap.size+1+1,6,none⟩ (.bool gs)).setCell ⟨w.heap.size+1+1,7,none⟩ (.slice na gd.length nc)).cell? ⟨w2.heap.size,0,none⟩=some (.string gn)∧((((((((W.setCell ⟨w.heap.size+1+1,0,none⟩ (.string gn)).setCell ⟨w.heap.size+1+1,1,none⟩ (.string gof)).setCell ⟨w.heap.size+1+1,2,none⟩ (.bool gl)).setCell ⟨w.heap.size+1+1,3,none⟩ (.bool gm)).setCell ⟨w.heap.size+1+1,4,none⟩ (.bool gfr)).setCell ⟨w.heap.size+1+1,5,none⟩ (.bool gh)).setCell ⟨w.heap.size+1+1,6,none⟩ (.bool gs)).setCell ⟨w.heap.size+1+1,7,none⟩ (.slice na gd.length nc)).cell? ⟨w2.heap.size,1,none⟩=some (.string gof)∧((((((((W.setCell ⟨w.heap.size+1+1,0,none⟩ (.string gn)).setCell ⟨w.heap.size+1+1,1,none⟩ (.string gof)).setCell ⟨w.heap.size+1+1,2,none⟩ (.bool gl)).setCell ⟨w.heap.size+1+1,3,none⟩ (.bool gm)).setCell ⟨w.heap.size+1+1,4,none⟩ (.bool gfr)).setCell ⟨w.heap.size+1+1,5,none⟩ (.bool gh)).setCell ⟨w.heap.size+1+1,6,none⟩ (.bool gs)).setCell ⟨w.heap.size+1+1,7,none⟩ (.slice na gd.length nc)).cell? ⟨w2.heap.size,2,none⟩=some (.bool gl)∧((((((((W.setCell ⟨w.heap.size+1+1,0,none⟩ (.string gn)).setCell ⟨w.heap.size+1+1,1,none⟩ (.string gof)).setCell ⟨w.heap.size+1+1,2,none⟩ (.bool gl)).setCell ⟨w.heap.size+1+1,3,none⟩ (.bool gm)).setCell ⟨w.heap.size+1+1,4,none⟩ (.bool gfr)).setCell ⟨w.heap.size+1+1,5,none⟩ (.bool gh)).setCell ⟨w.heap.size+1+1,6,none⟩ (.bool gs)).setCell ⟨w.heap.size+1+1,7,none⟩ (.slice na gd.length nc)).cell? ⟨w2.heap.size,3,none⟩=some (.bool gm)∧((((((((W.setCell ⟨w.heap.size+1+1,0,none⟩ (.string gn)).setCell ⟨w.heap.size+1+1,1,none⟩ (.string gof)).setCell ⟨w.heap.size+1+1,2,none⟩ (.bool gl)).setCell ⟨w.heap.size+1+1,3,none⟩ (.bool gm)).setCell ⟨w.heap.size+1+1,4,none⟩ (.bool gfr)).setCell ⟨w.heap.size+1+1,5,none⟩ (.bool gh)).setCell ⟨w.heap.size+1+1,6,none⟩ (.bool gs)).setCell ⟨w.heap.size+1+1,7,none⟩ (.slice na gd.length nc)).cell? ⟨w2.heap.size,4,none⟩=some (.bool gfr)∧((((((((W.setCell ⟨w.heap.size+1+1,0,none⟩ (.string gn)).setCell ⟨w.heap.size+1+1,1,none⟩ (.string gof)).setCell ⟨w.heap.size+1+1,2,none⟩ (.bool gl)).setCell ⟨w.heap.size+1+1,3,none⟩ (.bool gm)).setCell ⟨w.heap.size+1+1,4,none⟩ (.bool gfr)).setCell ⟨w.heap.size+1+1,5,none⟩ (.bool gh)).setCell ⟨w.heap.size+1+1,6,none⟩ (.bool gs)).setCell ⟨w.heap.size+1+1,7,none⟩ (.slice na gd.length nc)).cell? ⟨w2.heap.size,5,none⟩=some (.bool gh)∧((((((((W.setCell ⟨w.heap.size+1+1,0,none⟩ (.string gn)).setCell ⟨w.heap.size+1+1,1,none⟩ (.string gof)).setCell ⟨w.heap.size+1+1,2,none⟩ (.bool gl)).setCell ⟨w.heap.size+1+1,3,none⟩ (.bool gm)).setCell ⟨w.heap.size+1+1,4,none⟩ (.bool gfr)).setCell ⟨w.heap.size+1+1,5,none⟩ (.bool gh)).setCell ⟨w.heap.size+1+1,6,none⟩ (.bool gs)).setCell ⟨w.heap.size+1+1,7,none⟩ (.slice na gd.length nc)).cell? ⟨w2.heap.size,6,none⟩=some (.bool gs)∧((((((((W.setCell ⟨w.heap.size+1+1,0,none⟩ (.string gn)).setCell ⟨w.heap.size+1+1,1,none⟩ (.string gof)).setCell ⟨w.heap.size+1+1,2,none⟩ (.bool gl)).setCell ⟨w.heap.size+1+1,3,none⟩ (.bool gm)).setCell ⟨w.heap.size+1+1,4,none⟩ (.bool gfr)).setCell ⟨w.heap.size+1+1,5,none⟩ (.bool gh)).setCell ⟨w.heap.size+1+1,6,none⟩ (.bool gs)).setCell ⟨w.heap.size+1+1,7,none⟩ (.slice na gd.length nc)).cell? ⟨w2.heap.size,7,none⟩=some (.slice na gd.length nc)):=aA0 fun W hW=>by
   obtain⟨d0,d1,d2,d3,d4,d5,d6,d7⟩:=(HBX.out W hW).2
   have hne:=HNE.out
   generalize w.heap.size+1+1=M at*
   have hst:∀j,((((((((W.setCell ⟨M,0,none⟩ (.string gn)).setCell ⟨M,1,none⟩ (.string gof)).setCell ⟨M,2,none⟩ (.bool gl)).setCell ⟨M,3,none⟩ (.bool gm)).setCell ⟨M,4,none⟩ (.bool gfr)).setCell ⟨M,5,none⟩ (.bool gh)).setCell ⟨M,6,none⟩ (.bool gs)).setCell ⟨M,7,none⟩ (.slice na gd.length nc)).cell? ⟨w2.heap.size,j,none⟩=W.cell? ⟨w2.heap.size,j,none⟩:=fun j=>World.cell?_of_block (aDL (fun e=>hne e.symm) _ _ _ _ _ _ _ _ _)
   exact⟨(hst 0).trans d0,(hst 1).trans d1,(hst 2).trans d2,(hst 3).trans d3,(hst 4).trans d4,(hst 5).trans d5,(hst 6).trans d6,(hst 7).trans d7⟩
  have HR8:Hid (∀W,Below Y.heap.size Y W→((((((((W.setCell ⟨w.heap.size+1+1,0,none⟩ (.string gn)).setCell ⟨w.heap.size+1+1,1,none⟩ (.string gof)).setCell ⟨w.heap.size+1+1,2,none⟩ (.bool gl)).setCell ⟨w.heap.size+1+1,3,none⟩ (.bool gm)).setCell ⟨w.heap.size+1+1,4,none⟩ (.bool gfr)).setCell ⟨w.heap.size+1+1,5,none⟩ (.bool gh)).setCell ⟨w.heap.size+1+1,6,none⟩ (.bool gs)).setCell ⟨w.heap.size+1+1,7,none⟩ (.slice na gd.length nc)).heap[w.heap.size+1+1]?=some (.cells #[.string gn,.string gof,.bool gl,.bool gm,.bool gfr,.bool gh,.bool gs,.slice na gd.length nc] 80 (0,0))):=aA0 fun W hW=>aF5 (HBX.out W hW).1 _ _ _ _ _ _ _ _
  have HKC:=aA0 HKB.out
  clear nF bF bX3 bX2 hzX zF hb2
  cases kn<;>cases gfr
  ·have e:kb=false:=HKC.out
   subst e
   refine wp_region_held_drew (S:=(fun W=>W.cell? ⟨w2.heap.size,0,none⟩=some (.string gn)∧W.cell? ⟨w2.heap.size,1,none⟩=some (.string gof)∧W.cell? ⟨w2.heap.size,2,none⟩=some (.bool gl)∧W.cell? ⟨w2.heap.size,3,none⟩=some (.bool gm)∧W.cell? ⟨w2.heap.size,4,none⟩=some (.bool false)∧W.cell? ⟨w2.heap.size,5,none⟩=some (.bool gh)∧W.cell? ⟨w2.heap.size,6,none⟩=some (.bool gs)∧W.cell? ⟨w2.heap.size,7,none⟩=some (.slice na gd.length nc))) (by kernel_rfl) (HBX.out _ (Below.refl _ _).drew).2 (fun hHeld=>?_)
   have bY:Below Y.heap.size Y Y.drew:=(Below.refl _ _).drew
   generalize Y.drew=wD at*
   refine tkH 0 hHeld ?_
   refine tkH 1 hHeld ?_
   refine tkH 2 hHeld ?_
   refine tnH 3 hHeld ?_
   refine tnH 4 hHeld ?_
   refine tnH 5 hHeld ?_
   refine tkH 6 hHeld ?_
   refine rdyH [7] ?_
   refine rcH (fun K hK=>?_) AllReadyH.nil
   have nE:=(HBX.out wD bY).1
   obtain⟨y0,g0⟩:=aA1 nE 0 (by simp)
   obtain⟨y1,g1⟩:=aA1 nE 1 (by simp)
   obtain⟨y2,g2⟩:=aA1 nE 2 (by simp)
   obtain⟨y3,g3⟩:=aA1 nE 3 (by simp)
   obtain⟨y4,g4⟩:=aA1 nE 4 (by simp)
   obtain⟨y5,g5⟩:=aA1 nE 5 (by simp)
   obtain⟨y6,g6⟩:=aA1 nE 6 (by simp)
   obtain⟨y7,g7⟩:=aA1 nE 7 (by simp)
   go_simp
   refine hK.out _ _ (HST.out wD bY) (fun hHeld=>?_)
   clear hK K
   try simp only[Act.put,sIA,sI0,sIS]
   refine tkH 8 hHeld ?_
   refine wpAnyH_done (by kernel_rfl) ?_ _
   have HR9:=aA0 (HR8.out wD bY)
   have HFF:=aA0 (HFIN.out wD bY)
   go_wp2_with fail
   exact bodyPost_ret (aIB _ _ (w.heap.size+1+1) _ _ _ _ _ _ _ _ _ rfl rfl HR9.out) rfl HFF.out
  ·have e:kb=false:=HKC.out
   subst e
   refine wp_region_held_drew (S:=(fun W=>W.cell? ⟨w2.heap.size,0,none⟩=some (.string gn)∧W.cell? ⟨w2.heap.size,1,none⟩=some (.string gof)∧W.cell? ⟨w2.heap.size,2,none⟩=some (.bool gl)∧W.cell? ⟨w2.heap.size,3,none⟩=some (.bool gm)∧W.cell? ⟨w2.heap.size,4,none⟩=some (.bool true)∧W.cell? ⟨w2.heap.size,5,none⟩=some (.bool gh)∧W.cell? ⟨w2.heap.size,6,none⟩=some (.bool gs)∧W.cell? ⟨w2.heap.size,7,none⟩=some (.slice na gd.length nc))) (by kernel_rfl) (HBX.out _ (Below.refl _ _).drew).2 (fun hHeld=>?_)
   have bY:Below Y.heap.size Y Y.drew:=(Below.refl _ _).drew
   generalize Y.drew=wD at*
   refine tkH 0 hHeld ?_
   refine tkH 1 hHeld ?_
   refine tkH 2 hHeld ?_
   refine tnH 3 hHeld ?_
   refine tnH 4 hHeld ?_
   refine tnH 5 hHeld ?_
   refine tkH 6 hHeld ?_
   refine rdyH [7] ?_
   refine rcH (fun K hK=>?_) AllReadyH.nil
   have nE:=(HBX.out wD bY).1
   obtain⟨y0,g0⟩:=aA1 nE 0 (by simp)
   obtain⟨y1,g1⟩:=aA1 nE 1 (by simp)
   obtain⟨y2,g2⟩:=aA1 nE 2 (by simp)
   obtain⟨y3,g3⟩:=aA1 nE 3 (by simp)
   obtain⟨y4,g4⟩:=aA1 nE 4 (by simp)
   obtain⟨y5,g5⟩:=aA1 nE 5 (by simp)
   obtain⟨y6,g6⟩:=aA1 nE 6 (by simp)
   obtain⟨y7,g7⟩:=aA1 nE 7 (by simp)
   go_simp
   refine hK.out _ _ (HST.out wD bY) (fun hHeld=>?_)
   clear hK K
   try simp only[Act.put,sIA,sI0,sIS]
   refine tkH 8 hHeld ?_
   refine wpAnyH_done (by kernel_rfl) ?_ _
   have HR9:=aA0 (HR8.out wD bY)
   have HFF:=aA0 (HFIN.out wD bY)
   go_wp2_with fail
   exact bodyPost_ret (aIB _ _ (w.heap.size+1+1) _ _ _ _ _ _ _ _ _ rfl rfl HR9.out) rfl HFF.out
  ·have e:kb=true:=HKC.out
   subst e
   refine wp_region_held_drew (S:=(fun W=>W.cell? ⟨w2.heap.size,0,none⟩=some (.string gn)∧W.cell? ⟨w2.heap.size,1,none⟩=some (.string gof)∧W.cell? ⟨w2.heap.size,2,none⟩=some (.bool gl)∧W.cell? ⟨w2.heap.size,3,none⟩=some (.bool gm)∧W.cell? ⟨w2.heap.size,4,none⟩=some (.bool false)∧W.cell? ⟨w2.heap.size,5,none⟩=some (.bool gh)∧W.cell? ⟨w2.heap.size,6,none⟩=some (.bool gs)∧W.cell? ⟨w2.heap.size,7,none⟩=some (.slice na gd.length nc))) (by kernel_rfl) (HBX.out _ (Below.refl _ _).drew).2 (fun hHeld=>?_)
   have bY:Below Y.heap.size Y Y.drew:=(Below.refl _ _).drew
   generalize Y.drew=wD at*
   refine tkH 0 hHeld ?_
   refine tkH 1 hHeld ?_
   refine tkH 2 hHeld ?_
   refine tkH 3 hHeld ?_
   refine tkH 4 hHeld ?_
   refine tkH 5 hHeld ?_
   refine tkH 6 hHeld ?_
   refine rdyH [7] ?_
   refine rcH (fun K hK=>?_) AllReadyH.nil
   have nE:=(HBX.out wD bY).1
   obtain⟨y0,g0⟩:=aA1 nE 0 (by simp)
   obtain⟨y1,g1⟩:=aA1 nE 1 (by simp)
   obtain⟨y2,g2⟩:=aA1 nE 2 (by simp)
   obtain⟨y3,g3⟩:=aA1 nE 3 (by simp)
   obtain⟨y4,g4⟩:=aA1 nE 4 (by simp)
   obtain⟨y5,g5⟩:=aA1 nE 5 (by simp)
   obtain⟨y6,g6⟩:=aA1 nE 6 (by simp)
   obtain⟨y7,g7⟩:=aA1 nE 7 (by simp)
   go_simp
   refine hK.out _ _ (HST.out wD bY) (fun hHeld=>?_)
   clear hK K
   try simp only[Act.put,sIA,sI0,sIS]
   refine tkH 8 hHeld ?_
   refine wpAnyH_done (by kernel_rfl) ?_ _
   have HR9:=aA0 (HR8.out wD bY)
   have HFF:=aA0 (HFIN.out wD bY)
   go_wp2_with fail
   exact bodyPost_ret (aIB _ _ (w.heap.size+1+1) _ _ _ _ _ _ _ _ _ rfl rfl HR9.out) rfl HFF.out
  ·have e:kb=false:=HKC.out
   subst e
   refine wp_region_held_drew (S:=(fun W=>W.cell? ⟨w2.heap.size,0,none⟩=some (.string gn)∧W.cell? ⟨w2.heap.size,1,none⟩=some (.string gof)∧W.cell? ⟨w2.heap.size,2,none⟩=some (.bool gl)∧W.cell? ⟨w2.heap.size,3,none⟩=some (.bool gm)∧W.cell? ⟨w2.heap.size,4,none⟩=some (.bool true)∧W.cell? ⟨w2.heap.size,5,none⟩=some (.bool gh)∧W.cell? ⟨w2.heap.size,6,none⟩=some (.bool gs)∧W.cell? ⟨w2.heap.size,7,none⟩=some (.slice na gd.length nc))) (by kernel_rfl) (HBX.out _ (Below.refl _ _).drew).2 (fun hHeld=>?_)
   have bY:Below Y.heap.size Y Y.drew:=(Below.refl _ _).drew
   generalize Y.drew=wD at*
   refine tkH 0 hHeld ?_
   refine tkH 1 hHeld ?_
   refine tkH 2 hHeld ?_
   refine tkH 3 hHeld ?_
   refine tkH 4 hHeld ?_
   refine tkH 5 hHeld ?_
   refine tkH 6 hHeld ?_
   refine rdyH [7] ?_
   refine rcH (fun K hK=>?_) AllReadyH.nil
   have nE:=(HBX.out wD bY).1
   obtain⟨y0,g0⟩:=aA1 nE 0 (by simp)
   obtain⟨y1,g1⟩:=aA1 nE 1 (by simp)
   obtain⟨y2,g2⟩:=aA1 nE 2 (by simp)
   obtain⟨y3,g3⟩:=aA1 nE 3 (by simp)
   obtain⟨y4,g4⟩:=aA1 nE 4 (by simp)
   obtain⟨y5,g5⟩:=aA1 nE 5 (by simp)
   obtain⟨y6,g6⟩:=aA1 nE 6 (by simp)
   obtain⟨y7,g7⟩:=aA1 nE 7 (by simp)
   go_simp
   refine hK.out _ _ (HST.out wD bY) (fun hHeld=>?_)
   clear hK K
   try simp only[Act.put,sIA,sI0,sIS]
   refine tkH 8 hHeld ?_
   refine wpAnyH_done (by kernel_rfl) ?_ _
   have HR9:=aA0 (HR8.out wD bY)
   have HFF:=aA0 (HFIN.out wD bY)
   go_wp2_with fail
   exact bodyPost_ret (aIB _ _ (w.heap.size+1+1) _ _ _ _ _ _ _ _ _ rfl rfl HR9.out) rfl HFF.out
theorem aIA(FW:World)(tmps:Array Value)(N:Nat)(v0 v1 v2 ok:Value)(h2:tmps.getD 2 undef=.pointer (some ⟨N,0,none⟩))(h3:tmps.getD 3 undef=ok)(d0:FW.cell? ⟨N,0,none⟩=some v0)(d1:FW.cell? ⟨N,1,none⟩=some v1)(d2:FW.cell? ⟨N,2,none⟩=some v2):
  (results Tryz.f29 tmps).run Tryz.prog FW=.ok (.tuple #[.agg #[v0,v1,v2],ok]) FW:=by
 simp only[Array.getD_eq_getD_getElem?] at h2 h3
 simp[results,Tryz.results29,go_sem,h2,h3,d0,d1,d2]
set_option maxRecDepth 20000 in
set_option maxHeartbeats 3200000 in
theorem aQ6(ps:List Pt)(w:World)(B:Nat)(a:Option Addr)(c:Nat)(hc:ps.length≤c)(hR:aAZ w (·<B) ps a)(hB:B≤w.heap.size)(hz:∀i,i<ps.length→szP (pth ps i)≤1048576)(hG:GErr w):
  Calls Tryz.prog 29 #[.slice a ps.length c] w fun e w'=>∃s ta tn tc,e=.returned (.tuple #[.agg #[.slice a ps.length c,.string s,.slice ta tn tc],.bool (aBK ps okP)])∧Below w.heap.size w w'∧(aBK ps okP=true→PRep w' (fun b=>w.heap.size<b∧b<w'.heap.size) (allM ps) (.agg #[.string s,.slice ta tn tc])):=by
 have b0:=aA2 w (.cells #[.slice none 0 0,.string ⟨#[]⟩,.slice none 0 0] 61)
 have n0:=aA3 (w:=w) (N:=w.heap.size) #[.slice none 0 0,.string ⟨#[]⟩,.slice none 0 0] 61 rfl
 have z0:w.heap.size<(w.alloc (.cells #[.slice none 0 0,.string ⟨#[]⟩,.slice none 0 0] 61)).heap.size:=by simp
 have HC:=aA0 (aN5 ps _ B a c hc (hR.under (b0.mono hB)) (by omega) hz (hG.on b0))
 obtain⟨pl,HPL⟩:∃x,Hid (x=ps.length):=⟨_,aA0 rfl⟩
 rw[←HPL.out] at HC ⊢
 obtain⟨bb,HBB⟩:∃x,Hid (x=aBK ps okP):=⟨_,aA0 rfl⟩
 rw[←HBB.out]
 clear hc hR hB hz hG
 go_enter Tryz.func29,Tryz.ntmps29
 go_upto_region 1 with fail
 generalize w.alloc (.cells #[.slice none 0 0,.string ⟨#[]⟩,.slice none 0 0] 61)=w0 at*
 cases bb
 ·go_upto_region 2 with(
   go_at_call 53
   refine HC.out.mono ?_
   rintro e w1 ⟨ch,er,rfl,⟨s,x1,x2,x3,y1,y2,y3,rfl⟩,b1,-,hF⟩
   obtain⟨T,v,rfl⟩:=hF HBB.out.symm)
  have HPP:Hid (false=true→PRep w1 (fun b=>w0.heap.size<b∧b<w1.heap.size) (allM ps) (.agg #[.string s,.slice x1 x2 x3])):=aA0 fun h=>by cases h
  have z1:=b1.size
  have b2:=aA2 w1 (.cells #[.string s,.slice x1 x2 x3,.slice y1 y2 y3] 49)
  have n2:=aA3 (w:=w1) (N:=w1.heap.size) #[.string s,.slice x1 x2 x3,.slice y1 y2 y3] 49 rfl
  have z2:w1.heap.size<(w1.alloc (.cells #[.string s,.slice x1 x2 x3,.slice y1 y2 y3] 49)).heap.size:=by simp
  have b12:=b1.trans (b2.mono z1)
  generalize w1.alloc (.cells #[.string s,.slice x1 x2 x3,.slice y1 y2 y3] 49)=w2 at*
  have HBX:Hid (∀W,Below w2.heap.size w2 W→W.heap[w.heap.size]?=some (.cells #[.slice none 0 0,.string ⟨#[]⟩,.slice none 0 0] 61 (0,0))∧W.heap[w1.heap.size]?=some (.cells #[.string s,.slice x1 x2 x3,.slice y1 y2 y3] 49 (0,0))):=aA0 fun W hW=>⟨((b12.trans (hW.mono b12.size)).block w.heap.size z0).trans n0,(hW.block w1.heap.size z2).trans n2⟩
  have HS:Hid (∀W,Below w2.heap.size w2 W→W.cell? ⟨w1.heap.size,0,none⟩=some (.string s)∧W.cell? ⟨w1.heap.size,1,none⟩=some (.slice x1 x2 x3)):=aA0 fun W hW=>by
   have h:=(HBX.out W hW).2
   exact⟨(aA1 h 0 (by simp)).1,(aA1 h 1 (by simp)).1⟩
  have HFIN:Hid (∀W,Below w2.heap.size w2 W→((((W.setCell ⟨w.heap.size,0,none⟩ (.slice a pl c)).setCell ⟨w.heap.size,1,none⟩ (.string s)).setCell ⟨w.heap.size,2,none⟩ (.slice x1 x2 x3)).cell? ⟨w1.heap.size,0,none⟩=some (.string s)∧(((W.setCell ⟨w.heap.size,0,none⟩ (.slice a pl c)).setCell ⟨w.heap.size,1,none⟩ (.string s)).setCell ⟨w.heap.size,2,none⟩ (.slice x1 x2 x3)).cell? ⟨w1.heap.size,1,none⟩=some (.slice x1 x2 x3))∧Below w.heap.size w (((W.setCell ⟨w.heap.size,0,none⟩ (.slice a pl c)).setCell ⟨w.heap.size,1,none⟩ (.string s)).setCell ⟨w.heap.size,2,none⟩ (.slice x1 x2 x3))∧(false=true→PRep (((W.setCell ⟨w.heap.size,0,none⟩ (.slice a pl c)).setCell ⟨w.heap.size,1,none⟩ (.string s)).setCell ⟨w.heap.size,2,none⟩ (.slice x1 x2 x3)) (fun b=>w.heap.size<b∧b<(((W.setCell ⟨w.heap.size,0,none⟩ (.slice a pl c)).setCell ⟨w.heap.size,1,none⟩ (.string s)).setCell ⟨w.heap.size,2,none⟩ (.slice x1 x2 x3)).heap.size) (allM ps) (.agg #[.string s,.slice x1 x2 x3]))):=aA0 fun W hW=>by
   have h:(((W.setCell ⟨w.heap.size,0,none⟩ (.slice a pl c)).setCell ⟨w.heap.size,1,none⟩ (.string s)).setCell ⟨w.heap.size,2,none⟩ (.slice x1 x2 x3)).heap[w1.heap.size]?=some (.cells #[.string s,.slice x1 x2 x3,.slice y1 y2 y3] 49 (0,0)):=by
    rw[Below.heap_setCell _ _ _ _ (by show w1.heap.size≠w.heap.size;omega),Below.heap_setCell _ _ _ _ (by show w1.heap.size≠w.heap.size;omega),Below.heap_setCell _ _ _ _ (by show w1.heap.size≠w.heap.size;omega)]
    exact(HBX.out W hW).2
   refine⟨⟨(aA1 h 0 (by simp)).1,(aA1 h 1 (by simp)).1⟩,(((((b0.trans (b12.mono (by omega))).trans (hW.mono (by have:=b12.size;omega))).setCell (p:=⟨w.heap.size,0,none⟩) (Nat.le_refl _) _).setCell (p:=⟨w.heap.size,1,none⟩) (Nat.le_refl _) _).setCell (p:=⟨w.heap.size,2,none⟩) (Nat.le_refl _) _),fun hb=>((HPP.out hb).mono fun b hb2=>?_).sub fun b hb2=>⟨by omega,by have:=hW.size;simp;omega⟩⟩
   rw[Below.heap_setCell _ _ _ _ (by show b≠w.heap.size;omega),Below.heap_setCell _ _ _ _ (by show b≠w.heap.size;omega),Below.heap_setCell _ _ _ _ (by show b≠w.heap.size;omega)]
   exact(hW.block b (by omega)).trans (b2.block b hb2.2)
  have bX:Below w2.heap.size w2 w2.drew:=(Below.refl _ _).drew
  clear n2 b2 b12 b1 z1 z2 n0 b0 z0
  refine wp_region_held_drew (S:=(fun W=>W.cell? ⟨w1.heap.size,0,none⟩=some (.string s)∧W.cell? ⟨w1.heap.size,1,none⟩=some (.slice x1 x2 x3))) (by kernel_rfl) (HS.out _ bX) (fun hHeld=>?_)
  generalize w2.drew=wD at*
  refine tkH 0 hHeld ?_
  refine tkH 1 hHeld ?_
  refine tkH 2 hHeld ?_
  refine tkH 3 hHeld ?_
  refine tkH 4 hHeld ?_
  refine tkH 5 hHeld ?_
  refine rdyH [6] ?_
  refine rcH (fun K hK=>?_) AllReadyH.nil
  obtain⟨nE,nS⟩:=HBX.out wD bX
  obtain⟨o0,y0⟩:=aA1 nE 0 (by simp)
  obtain⟨o1,y1⟩:=aA1 nE 1 (by simp)
  obtain⟨o2,y2⟩:=aA1 nE 2 (by simp)
  simp only[List.getElem_toArray,List.getElem_cons_zero,List.getElem_cons_succ] at o0 o1 o2
  have HRR:=aA0 (aDG nE (.slice a pl c) (.string s) (.slice x1 x2 x3))
  have HFF:=aA0 (HFIN.out wD bX)
  clear nE nS
  go_simp
  clear o0 o1 o2 y0 y1 y2
  refine hK.out _ _ HFF.out.1 (fun hHeld=>?_)
  clear hK K
  try simp only[Act.put,sIA,sI0,sIS]
  refine tkH 7 hHeld ?_
  refine wpAnyH_done (by kernel_rfl) ?_ _
  go_wp2_with fail
  have e0:=(aA1 HRR.out 0 (by simp)).1
  have e1:=(aA1 HRR.out 1 (by simp)).1
  have e2:=(aA1 HRR.out 2 (by simp)).1
  first| exact bodyPost_ret (aIA _ _ w.heap.size _ _ _ _ rfl rfl e0 e1 e2) rfl ⟨s,x1,x2,x3,rfl,HFF.out.2⟩| exact bodyPost_ret (aIA _ _ w.heap.size _ _ _ _ rfl rfl e0 e1 e2) rfl ⟨s,x1,x2,x3,rfl,HFF.out.2.1,HFF.out.2.2 (by trivial)⟩
 ·go_upto_region 2 with(
   go_at_call 53
   refine HC.out.mono ?_
   rintro e w1 ⟨ch,er,rfl,⟨s,x1,x2,x3,y1,y2,y3,rfl⟩,b1,hT,-⟩
   obtain⟨rfl,hch⟩:=hT HBB.out.symm)
  have HPP:Hid (true=true→PRep w1 (fun b=>w0.heap.size<b∧b<w1.heap.size) (allM ps) (.agg #[.string s,.slice x1 x2 x3])):=aA0 fun _=>by
   obtain⟨ta,oa,tc,oc,e,hp,-,-⟩:=hch
   simp only[Value.agg.injEq,Array.mk.injEq,List.cons.injEq,Value.string.injEq,Value.slice.injEq,and_true] at e
   obtain⟨rfl,⟨rfl,rfl,rfl⟩,-⟩:=e
   exact hp
  clear hch
  have z1:=b1.size
  have b2:=aA2 w1 (.cells #[.string s,.slice x1 x2 x3,.slice y1 y2 y3] 49)
  have n2:=aA3 (w:=w1) (N:=w1.heap.size) #[.string s,.slice x1 x2 x3,.slice y1 y2 y3] 49 rfl
  have z2:w1.heap.size<(w1.alloc (.cells #[.string s,.slice x1 x2 x3,.slice y1 y2 y3] 49)).heap.size:=by simp
  have b12:=b1.trans (b2.mono z1)
  generalize w1.alloc (.cells #[.string s,.slice x1 x2 x3,.slice y1 y2 y3] 49)=w2 at*
  have HBX:Hid (∀W,Below w2.heap.size w2 W→W.heap[w.heap.size]?=some (.cells #[.slice none 0 0,.string ⟨#[]⟩,.slice none 0 0] 61 (0,0))∧W.heap[w1.heap.size]?=some (.cells #[.string s,.slice x1 x2 x3,.slice y1 y2 y3] 49 (0,0))):=aA0 fun W hW=>⟨((b12.trans (hW.mono b12.size)).block w.heap.size z0).trans n0,(hW.block w1.heap.size z2).trans n2⟩
  have HS:Hid (∀W,Below w2.heap.size w2 W→W.cell? ⟨w1.heap.size,0,none⟩=some (.string s)∧W.cell? ⟨w1.heap.size,1,none⟩=some (.slice x1 x2 x3)):=aA0 fun W hW=>by
   have h:=(HBX.out W hW).2
   exact⟨(aA1 h 0 (by simp)).1,(aA1 h 1 (by simp)).1⟩
  have HFIN:Hid (∀W,Below w2.heap.size w2 W→((((W.setCell ⟨w.heap.size,0,none⟩ (.slice a pl c)).setCell ⟨w.heap.size,1,none⟩ (.string s)).setCell ⟨w.heap.size,2,none⟩ (.slice x1 x2 x3)).cell? ⟨w1.heap.size,0,none⟩=some (.string s)∧(((W.setCell ⟨w.heap.size,0,none⟩ (.slice a pl c)).setCell ⟨w.heap.size,1,none⟩ (.string s)).setCell ⟨w.heap.size,2,none⟩ (.slice x1 x2 x3)).cell? ⟨w1.heap.size,1,none⟩=some (.slice x1 x2 x3))∧Below w.heap.size w (((W.setCell ⟨w.heap.size,0,none⟩ (.slice a pl c)).setCell ⟨w.heap.size,1,none⟩ (.string s)).setCell ⟨w.heap.size,2,none⟩ (.slice x1 x2 x3))∧(true=true→PRep (((W.setCell ⟨w.heap.size,0,none⟩ (.slice a pl c)).setCell ⟨w.heap.size,1,none⟩ (.string s)).setCell ⟨w.heap.size,2,none⟩ (.slice x1 x2 x3)) (fun b=>w.heap.size<b∧b<(((W.setCell ⟨w.heap.size,0,none⟩ (.slice a pl c)).setCell ⟨w.heap.size,1,none⟩ (.string s)).setCell ⟨w.heap.size,2,none⟩ (.slice x1 x2 x3)).heap.size) (allM ps) (.agg #[.string s,.slice x1 x2 x3]))):=aA0 fun W hW=>by
   have h:(((W.setCell ⟨w.heap.size,0,none⟩ (.slice a pl c)).setCell ⟨w.heap.size,1,none⟩ (.string s)).setCell ⟨w.heap.size,2,none⟩ (.slice x1 x2 x3)).heap[w1.heap.size]?=some (.cells #[.string s,.slice x1 x2 x3,.slice y1 y2 y3] 49 (0,0)):=by
    rw[Below.heap_setCell _ _ _ _ (by show w1.heap.size≠w.heap.size;omega),Below.heap_setCell _ _ _ _ (by show w1.heap.size≠w.heap.size;omega),Below.heap_setCell _ _ _ _ (by show w1.heap.size≠w.heap.size;omega)]
    exact(HBX.out W hW).2
   refine⟨⟨(aA1 h 0 (by simp)).1,(aA1 h 1 (by simp)).1⟩,(((((b0.trans (b12.mono (by omega))).trans (hW.mono (by have:=b12.size;omega))).setCell (p:=⟨w.heap.size,0,none⟩) (Nat.le_refl _) _).setCell (p:=⟨w.heap.size,1,none⟩) (Nat.le_refl _) _).setCell (p:=⟨w.heap.size,2,none⟩) (Nat.le_refl _) _),fun hb=>((HPP.out hb).mono fun b hb2=>?_).sub fun b hb2=>⟨by omega,by have:=hW.size;simp;omega⟩⟩
   rw[Below.heap_setCell _ _ _ _ (by show b≠w.heap.size;omega),Below.heap_setCell _ _ _ _ (by show b≠w.heap.size;omega),Below.heap_setCell _ _ _ _ (by show b≠w.heap.size;omega)]
   exact(hW.block b (by omega)).trans (b2.block b hb2.2)
  have bX:Below w2.heap.size w2 w2.drew:=(Below.refl _ _).drew
  clear n2 b2 b12 b1 z1 z2 n0 b0 z0
  refine wp_region_held_drew (S:=(fun W=>W.cell? ⟨w1.heap.size,0,none⟩=some (.string s)∧W.cell? ⟨w1.heap.size,1,none⟩=some (.slice x1 x2 x3))) (by kernel_rfl) (HS.out _ bX) (fun hHeld=>?_)
  generalize w2.drew=wD at*
  refine tkH 0 hHeld ?_
  refine tkH 1 hHeld ?_
  refine tkH 2 hHeld ?_
  refine tkH 3 hHeld ?_
  refine tkH 4 hHeld ?_
  refine tkH 5 hHeld ?_
  refine rdyH [6] ?_
  refine rcH (fun K hK=>?_) AllReadyH.nil
  obtain⟨nE,nS⟩:=HBX.out wD bX
  obtain⟨o0,y0⟩:=aA1 nE 0 (by simp)
  obtain⟨o1,y1⟩:=aA1 nE 1 (by simp)
  obtain⟨o2,y2⟩:=aA1 nE 2 (by simp)
  simp only[List.getElem_toArray,List.getElem_cons_zero,List.getElem_cons_succ] at o0 o1 o2
  have HRR:=aA0 (aDG nE (.slice a pl c) (.string s) (.slice x1 x2 x3))
  have HFF:=aA0 (HFIN.out wD bX)
  clear nE nS
  go_simp
  clear o0 o1 o2 y0 y1 y2
  refine hK.out _ _ HFF.out.1 (fun hHeld=>?_)
  clear hK K
  try simp only[Act.put,sIA,sI0,sIS]
  refine tkH 7 hHeld ?_
  refine wpAnyH_done (by kernel_rfl) ?_ _
  go_wp2_with fail
  have e0:=(aA1 HRR.out 0 (by simp)).1
  have e1:=(aA1 HRR.out 1 (by simp)).1
  have e2:=(aA1 HRR.out 2 (by simp)).1
  first| exact bodyPost_ret (aIA _ _ w.heap.size _ _ _ _ rfl rfl e0 e1 e2) rfl ⟨s,x1,x2,x3,rfl,HFF.out.2⟩| exact bodyPost_ret (aIA _ _ w.heap.size _ _ _ _ rfl rfl e0 e1 e2) rfl ⟨s,x1,x2,x3,rfl,HFF.out.2.1,HFF.out.2.2 (by trivial)⟩
end Go.Proofs.YtcebpkeiaiiphaaGreatDoor
