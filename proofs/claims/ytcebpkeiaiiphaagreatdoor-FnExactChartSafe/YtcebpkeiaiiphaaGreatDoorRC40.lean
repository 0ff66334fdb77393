import Derived.Test.YtcebpkeiaiiphaaGreatDoorRC38
set_option linter.unusedSimpArgs false
set_option linter.unusedVariables false
namespace Go.Proofs.YtcebpkeiaiiphaaGreatDoor
open Go.RowKit Go.Maps
theorem aSW(FW:World)(tmps:Array Value)(N:Nat)(v0 v1:Value)(h2:tmps.getD 2 undef=.pointer (some ⟨N,0,none⟩))(d0:FW.cell? ⟨N,0,none⟩=some v0)(d1:FW.cell? ⟨N,1,none⟩=some v1):
  (results Tryz.f83 tmps).run Tryz.prog FW=.ok (.agg #[v0,v1]) FW:=by
 simp only[Array.getD_eq_getD_getElem?] at h2;simp[results,Tryz.results83,go_sem,h2,d0,d1]
section
variable {w:World} {P:Nat->Prop} {B:Nat} {X:Su} {c:Nat} {V:Sv}
set_option maxRecDepth 20000 in
set_option maxHeartbeats 6400000 in
theorem aUF(h:SuL w P B X c V)(hP:∀b,P b->b<B)(hB:B<=w.heap.size)(hc:c<=100000)(pa:Option Addr)(pl pc:Nat)(hne:∀nm n,n∈ X.tf nm->0<(X.sd nm n).length)(hnl:∀nm n i,i<(X.sd nm n).length->(fth (X.sd nm n) i).needs.length<=1000000)(hsz:∀nm,nm∈ X.tn->nm.size<=maxLen∧(aGP (X.ky nm)).size<=maxLen):
  Calls Tryz.prog 83 #[.agg (V.cells (.slice pa pl pc))] w fun e w'=>∃ov,e=.returned (.agg #[.string ⟨#[97]⟩,ov])∧Below w.heap.size w w'∧PRep w' (fun b=>w.heap.size<=b∧b<w'.heap.size) ⟨⟨#[97]⟩,X.tn.map (outX X)⟩ (.agg #[.string ⟨#[97]⟩,ov]):=by
 obtain⟨p1,r1,k1,p2,r2,k2,p3,r3,k3,p4,r4,k4,HV⟩:=h.form (.slice pa pl pc);obtain⟨ta,tk,ht,hts⟩:=h.types;have e1:V.kv1=.slice p1 r1 k1:=by
  have:=congrArg (fun a:Array Value=>a.getD 1 undef) HV;simpa[Sv.cells] using this
 rw[ht] at e1;simp only[Value.slice.injEq] at e1;obtain⟨rfl,rfl,rfl⟩:=e1;obtain⟨n,HN⟩:∃x,Hid (x=X.tn.length):=⟨_,aA0 rfl⟩;rw[<-HN.out] at HV;clear ht;have HKO:Hid (∀W,Below w.heap.size w W->∀nm,Calls Tryz.prog 115 #[.agg #[.slice pa pl pc,.slice ta n tk,.map (some V.m1),.slice p2 r2 k2,.map (some V.m2),.slice p3 r3 k3,.map (some V.m3),.slice p4 r4 k4,.map (some V.m4)],.string nm] W fun e w'=>e=.returned (.string (aGP (X.ky nm)))∧Below W.heap.size W w'):=aA0 fun W hW nm=>by
  have:=aJU (h.under hP hB hW) pa pl pc nm;rw[HV] at this;exact this
 have HNM:=aA0 h.names;have HJ:Hid (∀nm n,0<(X.sd nm n).length->∃a k,(∀W,Below w.heap.size w W->(Instr.lookup 139 (.map (some V.m3)) (fk nm n) false).run Tryz.prog W=.ok (.slice a (X.sd nm n).length k) W)∧∀W,Below w.heap.size w W->Calls Tryz.prog 118 #[.slice a (X.sd nm n).length k] W fun e w'=>∃na nc,e=.returned (.agg #[.string (aCM (X.sd nm n)).name,.string (aCM (X.sd nm n)).of,.bool (aCM (X.sd nm n)).list,.bool (aCM (X.sd nm n)).must,.bool (aCM (X.sd nm n)).far,.bool (aCM (X.sd nm n)).hidden,.bool (aCM (X.sd nm n)).shared,.slice na (aCM (X.sd nm n)).needs.length nc])∧Below W.heap.size W w'∧FRep w' (fun b=>W.heap.size<=b∧b<w'.heap.size) (aCM (X.sd nm n)) (.agg (fcl (aCM (X.sd nm n)) na nc).toArray)):=aA0 fun nm n h0=>by
  obtain⟨a,k,hs,hlk⟩:=h.flds hP hB hc nm n;refine⟨a,k,hlk,fun W hW=>(aKA _ W w.heap.size a k (hs.under hW) hW.size h0 (hnl nm n)).mono fun e w' hE=>?_⟩;generalize aCM (X.sd nm n)=J at*;obtain⟨na,nc,e1,e2,e3⟩:=hE;exact⟨na,nc,e1,e2,e3⟩
 have HNE:=aA0 hne;have HSN:=aA0 hsz;have HTF:Hid (∀nm,(X.tf nm).length<=100000):=aA0 fun nm=>Nat.le_trans (h.le.tf nm) hc;have HTN:Hid (X.tn.length<=100000):=aA0 (Nat.le_trans h.le.tn hc);have HTS:=aA0 hts;rw[HV];clear h hP hB hc hne hnl hsz hts HV;have hnb:n<=100000:=by rw[HN.out];exact HTN.out
 have b1:=aA6 w (.cells #[.slice pa pl pc,.slice ta n tk,.map (some V.m1),.slice p2 r2 k2,.map (some V.m2),.slice p3 r3 k3,.map (some V.m3),.slice p4 r4 k4,.map (some V.m4)] 146) (.cells #[.string ⟨#[]⟩,.slice none 0 0] 46);have hsb:((w.alloc (.cells #[.slice pa pl pc,.slice ta n tk,.map (some V.m1),.slice p2 r2 k2,.map (some V.m2),.slice p3 r3 k3,.map (some V.m3),.slice p4 r4 k4,.map (some V.m4)] 146)).alloc (.cells #[.string ⟨#[]⟩,.slice none 0 0] 46)).heap[w.heap.size]?=some (.cells #[.slice pa pl pc,.slice ta n tk,.map (some V.m1),.slice p2 r2 k2,.map (some V.m2),.slice p3 r3 k3,.map (some V.m3),.slice p4 r4 k4,.map (some V.m4)] 146 (0,0)):=by
  rw[(aA2 (w.alloc _) _).block w.heap.size (by simp)]
  exact heap_alloc_new w _
 have hrb:=aA3 (w:=w.alloc (.cells #[.slice pa pl pc,.slice ta n tk,.map (some V.m1),.slice p2 r2 k2,.map (some V.m2),.slice p3 r3 k3,.map (some V.m3),.slice p4 r4 k4,.map (some V.m4)] 146)) (N:=w.heap.size+1) #[.string ⟨#[]⟩,.slice none 0 0] 46 (by simp)
 have z1:((w.alloc (.cells #[.slice pa pl pc,.slice ta n tk,.map (some V.m1),.slice p2 r2 k2,.map (some V.m2),.slice p3 r3 k3,.map (some V.m3),.slice p4 r4 k4,.map (some V.m4)] 146)).alloc (.cells #[.string ⟨#[]⟩,.slice none 0 0] 46)).heap.size=w.heap.size+2:=by simp
 go_enter Tryz.func83,Tryz.ntmps83
 go_upto_region 1 with fail
 generalize (w.alloc (.cells #[.slice pa pl pc,.slice ta n tk,.map (some V.m1),.slice p2 r2 k2,.map (some V.m2),.slice p3 r3 k3,.map (some V.m3),.slice p4 r4 k4,.map (some V.m4)] 146)).alloc (.cells #[.string ⟨#[]⟩,.slice none 0 0] 46)=w1 at*;have HM0:=aA0 (AlSt.start w1 ⟨#[97]⟩ w1.heap.size rfl);have HB1:=aA0 b1;have HSB:=aA0 hsb;have HRB:=aA0 hrb;have HBW:Hid (∀W,Below w1.heap.size w1 W->Below w.heap.size w W):=aA0 fun W hW=>HB1.out.trans (hW.mono (by have:=HB1.out.size;omega))
 have HSC:Hid (∀W,Below w1.heap.size w1 W->W.heap[w.heap.size]?=some (.cells #[.slice pa pl pc,.slice ta n tk,.map (some V.m1),.slice p2 r2 k2,.map (some V.m2),.slice p3 r3 k3,.map (some V.m3),.slice p4 r4 k4,.map (some V.m4)] 146 (0,0))):=aA0 fun W hW=>(hW.block w.heap.size (by omega)).trans HSB.out
 have hM:=aA2 w1 (.cells #[.string ⟨#[97]⟩,.slice none 0 0] 46);have d1:=(aA1 (HSC.out _ hM) 1 (by simp)).1
 simp only[List.getElem_toArray,List.getElem_cons_zero,List.getElem_cons_succ] at d1;have HZ1:=aA0 z1;clear b1 hsb hrb hM z1;go_upto_region 2 with fail
 generalize w1.alloc (.cells #[.string ⟨#[97]⟩,.slice none 0 0] 46)=w2 at*;go_wp2_with fail
 clear d1;go_loopw [14] (fun y wr=>∃k:Nat,k<=n∧y=.int .i64 k∧Hid (AlSt w1 w1.heap.size ⟨#[97]⟩ (tyX X k) wr)) (fun y _=>n- (intOf y).toNat)
 case atStart=>exact⟨0,Nat.zero_le _,rfl,HM0⟩
 case round=>
 clear HM0;obtain⟨k,hk,rfl,HK⟩:=hrel;obtain⟨w3,rfl⟩:∃x,x=wr:=⟨wr,rfl⟩;by_cases hlt:k<n
 ·have hki:(k:Int)<(n:Int):=by omega
  have hkn:k<X.tn.length:=by rw[<-HN.out];exact hlt
  obtain⟨tg,rfl,htg,htc⟩:=HTS.out (by omega)
  have b3:=HK.out.bel;have x0:=((HBW.out w3 b3).cell (p:=⟨tg,k,none⟩) htg).trans (htc k hkn);have HTS1:=aA0 (aTG X k hkn);have HSZ1:=aA0 (HSN.out (nth X.tn k) (by
   have e:nth X.tn k=X.tn[k]:=by simp[nth,List.getD_eq_getElem?_getD,hkn]
   rw[e];exact List.getElem_mem hkn))
  have HTL:=aA0 (aRK X k (by omega))
  clear htc;generalize nth X.tn k=nm at*;obtain⟨key,HKY⟩:∃x,Hid (x=aGP (X.ky nm)):=⟨_,aA0 rfl⟩;have HKN:=HKO.out w3 (HBW.out w3 b3) nm;rw[<-HKY.out] at HKN HSZ1;replace HKN:=aA0 HKN
  go_upto_region 5 with fail
  clear x0;have hsb:=HSC.out w3 b3;obtain⟨s0,-⟩:=aA1 hsb 0 (by simp)
  obtain⟨s1,-⟩:=aA1 hsb 1 (by simp)
  obtain⟨s2,-⟩:=aA1 hsb 2 (by simp)
  obtain⟨s3,-⟩:=aA1 hsb 3 (by simp)
  obtain⟨s4,-⟩:=aA1 hsb 4 (by simp)
  obtain⟨s5,-⟩:=aA1 hsb 5 (by simp)
  obtain⟨s6,-⟩:=aA1 hsb 6 (by simp)
  obtain⟨s7,-⟩:=aA1 hsb 7 (by simp)
  obtain⟨s8,-⟩:=aA1 hsb 8 (by simp)
  simp only[List.getElem_toArray,List.getElem_cons_zero,List.getElem_cons_succ] at s0 s1 s2 s3 s4 s5 s6 s7 s8;clear hsb;have HB3:=aA0 b3;clear b3;go_upto_region 6 with(
   go_at_call 115
   refine HKN.out.mono ?_;rintro e w4 ⟨rfl,b4⟩)
  have b34:=HK.out.bel.trans (b4.mono HK.out.bel.size);have HM4:=aA0 (HK.out.keep b4);have HB4:=aA0 b34;have b5:=aA2 w4 (.cells #[.string nm,.string key,.slice none 0 0] 96);have HF0:=aA0 (FlSt.start w4 nm key w4.heap.size rfl);have b15:=b34.trans (b5.mono b34.size);have t2:=(aA1 (HSC.out _ b15) 2 (by simp)).1
  simp only[List.getElem_toArray,List.getElem_cons_zero,List.getElem_cons_succ] at t2;obtain⟨fa,fc,hfs,hlk⟩:=HNM.out nm;have x1:=hlk _ (HBW.out _ b15);have HFS:=aA0 hfs;obtain⟨fl,HFL⟩:∃x,Hid (x=(X.tf nm).length):=⟨_,aA0 rfl⟩;rw[<-HFL.out] at x1;have hflb:fl<=100000:=by rw[HFL.out];exact HTF.out nm
  clear s0 s1 s2 s3 s4 s5 s6 s7 s8 b5 b15 b34 b4 hlk hfs HKN;generalize w4.alloc (.cells #[.string nm,.string key,.slice none 0 0] 96)=w5 at*;go_wp2_with fail
  clear x1 t2;go_loopw [29] (fun y wr=>∃l:Nat,l<=fl∧y=.int .i64 l∧Hid (FlSt w4 w4.heap.size nm key (flX X nm l) wr)) (fun y _=>fl- (intOf y).toNat)
  case atStart=>exact⟨0,Nat.zero_le _,rfl,HF0⟩
  case round=>
  clear HF0;obtain⟨l,hl,rfl,HL⟩:=hrel;obtain⟨w6,rfl⟩:∃x,x=wr:=⟨wr,rfl⟩;by_cases hl2:l<fl
  ·have hli:(l:Int)<(fl:Int):=by omega
   have hln:l<(X.tf nm).length:=by rw[<-HFL.out];exact hl2
   obtain⟨fg,rfl,hfg,hfc⟩:=HFS.out (by omega)
   have b46:=HL.out.bel;have b16:=HB4.out.trans (b46.mono HB4.out.size);have x2:=((HBW.out w6 b16).cell (p:=⟨fg,l,none⟩) hfg).trans (hfc l hln);have hsx:=aTE X nm l hln;obtain⟨ja,jk,hjl,hjc⟩:=HJ.out nm (nth (X.tf nm) l) (HNE.out nm _ (by
    have e:nth (X.tf nm) l=(X.tf nm)[l]:=by simp[nth,List.getD_eq_getElem?_getD,hln]
    rw[e];exact List.getElem_mem hln))
   have hfl:=aRJ X nm l (by omega)
   clear hfc hln;generalize nth (X.tf nm) l=fnm at*;generalize aCM (X.sd nm fnm)=f at*;generalize (X.sd nm fnm).length=sl at*;have HSX:=aA0 hsx;have HLK:Hid (∀W,Below w6.heap.size w6 W->(Instr.lookup 139 (.map (some V.m3)) (fk nm fnm) false).run Tryz.prog W=.ok (.slice ja sl jk) W):=aA0 fun W hW=>hjl W (HBW.out W (b16.trans (hW.mono b16.size)));have HJF:=aA0 (fun W (hW:Below w6.heap.size w6 W)=>hjc W (HBW.out W (b16.trans (hW.mono b16.size))));have HS6:Hid (∀W,Below w6.heap.size w6 W->W.cell? ⟨w.heap.size,6,none⟩=some (.map (some V.m3))):=aA0 fun W hW=>by
    have:=(aA1 (HSC.out W (b16.trans (hW.mono b16.size))) 6 (by simp)).1
    simpa only[List.getElem_toArray,List.getElem_cons_zero,List.getElem_cons_succ] using this
   obtain⟨v,xs,hN,hR,hC⟩:=HL.out.ex;rw[hfl] at hR;have hlt6:=HL.out.lt;have hz1:=HB1.out.size;have hz4:=HM4.out.lt;have HKC:Hid (∀W,Below w6.heap.size w6 W->W.cell? ⟨w4.heap.size,2,none⟩=some v):=aA0 fun W hW=>(aA1 ((hW.block _ hlt6).trans hN) 2 (by simp)).1
   have HRW:Hid (∀W,Below w6.heap.size w6 W->W.ownsRow (w4.heap.size+1) 80 8 v l xs):=aA0 fun W hW=>aAE hR hW;have HEND:Hid (∀W,Below w6.heap.size w6 W->∀na nc,FRep W (fun b=>w6.heap.size<=b∧b<W.heap.size) f (.agg (fcl f na nc).toArray)->∀g cap (wF:World),wF.ownsRow (w4.heap.size+1) 80 8 (.slice (some ⟨g,0,none⟩) (l+1) cap) (l+1) (xs++[.string f.name,.string f.of,.bool f.list,.bool f.must,.bool f.far,.bool f.hidden,.bool f.shared,.slice na f.needs.length nc])->W.grownBy wF v.ownBlock->(v.ownBlock=some g∨g=W.heap.size)->wF.cell? ⟨w.heap.size,6,none⟩=some (.map (some V.m3))∧((wF.cell? ⟨w4.heap.size,2,none⟩=some v∧wF.frozen? ⟨w4.heap.size,2,none⟩=false)∧(wF.setCell ⟨w4.heap.size,2,none⟩ (.slice (some ⟨g,0,none⟩) (l+1) cap)).cell? ⟨w.heap.size,6,none⟩=some (.map (some V.m3))∧FlSt w4 w4.heap.size nm key (flX X nm (l+1)) (wF.setCell ⟨w4.heap.size,2,none⟩ (.slice (some ⟨g,0,none⟩) (l+1) cap)))):=aA0 fun W hW na nc hFR g cap wF ho hg hor=>by
    have hNW:=(hW.block _ hlt6).trans hN;have hWs:=hW.size;have hov:∀b,v.ownBlock=some b->w4.heap.size<b∧b<w6.heap.size:=fun b hb=>by have:=hR.lt b hb;omega
    have hNF:=(hg.block w4.heap.size (by omega) fun e=>by have:=(hov _ e.symm).1;omega).trans hNW
    have hSF:=(hg.block w.heap.size (by omega) fun e=>by have:=(hov _ e.symm).1;omega).trans (HSC.out W (b16.trans (hW.mono b16.size)))
    have hSG:=((Below.heap_setCell wF ⟨w4.heap.size,2,none⟩ (.slice (some ⟨g,0,none⟩) (l+1) cap) w.heap.size (by show w.heap.size≠w4.heap.size;omega))).trans hSF
    refine⟨(aA1 hSF 6 (by simp)).1,aA1 hNF 2 (by simp),(aA1 hSG 6 (by simp)).1,?_⟩
    rw[HSX.out];refine FlSt.push (wx:=W) (v:=v) (xs:=xs) hNW ⟨hC.1,fun i hi=>?_⟩ (b46.trans (hW.mono b46.size)) (by omega) f na nc w6.heap.size hFR hlt6 hov (by rw[hfl];exact ho) hg ?_
    ·obtain⟨na',nc',q1,q2⟩:=hC.2 i hi;exact⟨na',nc',q1,(q2.mono fun b hb=>hW.block b hb.2.1).sub fun b hb=>⟨hb.1,Nat.lt_of_lt_of_le hb.2.1 hW.size,hb.2.2⟩⟩
    ·rcases hor with hor| hor
     ·exact .inl hor.symm
     ·exact .inr (by rw[hor];rfl)
   obtain⟨iF,zF,hiF,hF0,hF1,hF2,hFz⟩:=aDZ;clear b46 hjl hjc hfl hN hR hC hsx hz1 hz4;go_upto_region 9 with fail
   clear x2 b16;have bX:Below w6.heap.size w6 w6.drew:=(Below.refl _ _).drew;refine wp_region_held_drew (S:=(fun w'=>w'.cell? ⟨w.heap.size,6,none⟩=some (.map (some V.m3)))) (by kernel_rfl) (HS6.out _ bX) (fun hHeld=>?_)
   generalize w6.drew=wD at*;refine tkH 0 hHeld ?_;refine tkH 2 hHeld ?_;refine tkH 3 hHeld ?_;refine tkH 4 hHeld ?_;refine tkH 5 hHeld ?_;refine tkH 6 hHeld ?_;refine tkH 7 hHeld ?_;refine rdyH [1,8] ?_;refine rcH (fun K hK=>?_) ?_
   ·have hc:=HKC.out wD bX;go_simp
    clear hc;refine hK.out _ _ (HS6.out _ bX) (fun hHeld=>?_);clear hK K;try simp only[Act.put,sIA,sI0,sIS]
    refine rdyH [8] ?_;refine rcH (fun K hK=>?_) AllReadyH.nil;have hlk:=HLK.out wD bX;simp only[fk] at hlk;go_simp
    clear hlk;refine hK.out _ _ (HS6.out _ bX) (fun hHeld=>?_);clear hK K;try simp only[Act.put,sIA,sI0,sIS]
    refine rdyH [9] ?_;refine rcH (fun K hK=>?_) AllReadyH.nil;go_simp
    refine(HJF.out wD bX).mono ?_;rintro e wJ ⟨na,nc,rfl,bJ,hFR⟩;have HFR:Hid (∀W,Below wJ.heap.size wJ W->FRep W (fun b=>w6.heap.size<=b∧b<W.heap.size) f (.agg (fcl f na nc).toArray)):=aA0 fun W hW=>(hFR.mono fun b hb=>hW.block b hb.2).sub fun b hb=>⟨Nat.le_trans bX.size hb.1,Nat.lt_of_lt_of_le hb.2 hW.size⟩;have bX:=bX.trans (bJ.mono bX.size);have bJX:=Below.refl wJ.heap.size wJ;clear bJ hFR;refine hK.out _ _ (HS6.out _ bX) (fun hHeld=>?_);clear hK K;try simp only[Act.put,sIA,sI0,sIS]
    refine rdyH [10] ?_;refine rcH (fun K hK=>?_) AllReadyH.nil;go_simp
    have bE:=aA2 wJ (.cells #[.string f.name,.string f.of,.bool f.list,.bool f.must,.bool f.far,.bool f.hidden,.bool f.shared,.slice na f.needs.length nc] 80);obtain⟨gE,hgE⟩:∃g,g=wJ.heap.size:=⟨_,rfl⟩;have nE:=aA3 (w:=wJ) (N:=gE) #[.string f.name,.string f.of,.bool f.list,.bool f.must,.bool f.far,.bool f.hidden,.bool f.shared,.slice na f.needs.length nc] 80 hgE.symm;have bX:=bX.trans (bE.mono bX.size);have bJX:=bJX.trans (bE.mono bJX.size);refine hK.out _ _ (HS6.out _ bX) (fun hHeld=>?_);clear hK K;try simp only[Act.put,sIA,sI0,sIS]
    rw[<-hgE];generalize wJ.alloc (.cells #[.string f.name,.string f.of,.bool f.list,.bool f.must,.bool f.far,.bool f.hidden,.bool f.shared,.slice na f.needs.length nc] 80)=wE at*;clear hgE bE;refine rdyH [11] ?_;refine rcH (fun K hK=>?_) AllReadyH.nil;refine step_append_lies _ rfl (.tmp 34) (.tmp 43) 94 rfl (w4.heap.size+1) 80 iF zF 8 64 Tryz.underlying94 hiF hF0 hF1 hF2 hFz (by decide) v l xs rfl (HRW.out wE bX) ⟨gE,0,none⟩ 1 1 [.string f.name,.string f.of,.bool f.list,.bool f.must,.bool f.far,.bool f.hidden,.bool f.shared,.slice na f.needs.length nc] rfl rfl (World.news_of_block nE) (by intro u hu;simp at hu;rcases hu with rfl| rfl| rfl| rfl| rfl| rfl| rfl| rfl<;>rfl) (by omega) (by unfold maxLen;omega) (by omega) (by have:=bX.size;omega) _ rfl ?_
    intro gF capF wF oF hgF horF hltF;obtain⟨hsF,hAF⟩:=HEND.out wE bX na nc (HFR.out wE bJX) gF capF wF oF hgF horF;have HAF:=aA0 hAF;clear oF hgF horF hAF;refine hK.out _ _ hsF (fun hHeld=>?_);clear hK K;try simp only[Act.put,sIA,sI0,sIS]
    refine tkH 12 hHeld ?_;refine rdyH [13] ?_;refine rcH (fun K hK=>?_) AllReadyH.nil;obtain⟨hc,hz⟩:=HAF.out.1;go_simp
    clear hc hz;refine hK.out _ _ HAF.out.2.1 (fun hHeld=>?_);clear hK K;try simp only[Act.put,sIA,sI0,sIS]
    refine wpAnyH_done (by kernel_rfl) ?_ _
    have HFN:=aA0 HAF.out.2.2;clear HAF;go_wp2_with fail
    exact⟨⟨l+1,by omega,by go_num,HFN⟩,by simp[intOf];omega⟩
   refine rcH (fun K hK=>?_) AllReadyH.nil;have hlk:=HLK.out wD bX;simp only[fk] at hlk;go_simp
   clear hlk;refine hK.out _ _ (HS6.out _ bX) (fun hHeld=>?_);clear hK K;try simp only[Act.put,sIA,sI0,sIS]
   refine rdyH [1,9] ?_;refine rcH (fun K hK=>?_) ?_
   ·have hc:=HKC.out wD bX;go_simp
    clear hc;refine hK.out _ _ (HS6.out _ bX) (fun hHeld=>?_);clear hK K;try simp only[Act.put,sIA,sI0,sIS]
    refine rdyH [9] ?_;refine rcH (fun K hK=>?_) AllReadyH.nil;go_simp
    refine(HJF.out wD bX).mono ?_;rintro e wJ ⟨na,nc,rfl,bJ,hFR⟩;have HFR:Hid (∀W,Below wJ.heap.size wJ W->FRep W (fun b=>w6.heap.size<=b∧b<W.heap.size) f (.agg (fcl f na nc).toArray)):=aA0 fun W hW=>(hFR.mono fun b hb=>hW.block b hb.2).sub fun b hb=>⟨Nat.le_trans bX.size hb.1,Nat.lt_of_lt_of_le hb.2 hW.size⟩;have bX:=bX.trans (bJ.mono bX.size);have bJX:=Below.refl wJ.heap.size wJ;clear bJ hFR;refine hK.out _ _ (HS6.out _ bX) (fun hHeld=>?_);clear hK K;try simp only[Act.put,sIA,sI0,sIS]
    refine rdyH [10] ?_;refine rcH (fun K hK=>?_) AllReadyH.nil;go_simp
    have bE:=aA2 wJ (.cells #[.string f.name,.string f.of,.bool f.list,.bool f.must,.bool f.far,.bool f.hidden,.bool f.shared,.slice na f.needs.length nc] 80);obtain⟨gE,hgE⟩:∃g,g=wJ.heap.size:=⟨_,rfl⟩;have nE:=aA3 (w:=wJ) (N:=gE) #[.string f.name,.string f.of,.bool f.list,.bool f.must,.bool f.far,.bool f.hidden,.bool f.shared,.slice na f.needs.length nc] 80 hgE.symm;have bX:=bX.trans (bE.mono bX.size);have bJX:=bJX.trans (bE.mono bJX.size);refine hK.out _ _ (HS6.out _ bX) (fun hHeld=>?_);clear hK K;try simp only[Act.put,sIA,sI0,sIS]
    rw[<-hgE];generalize wJ.alloc (.cells #[.string f.name,.string f.of,.bool f.list,.bool f.must,.bool f.far,.bool f.hidden,.bool f.shared,.slice na f.needs.length nc] 80)=wE at*;clear hgE bE;refine rdyH [11] ?_;refine rcH (fun K hK=>?_) AllReadyH.nil;refine step_append_lies _ rfl (.tmp 34) (.tmp 43) 94 rfl (w4.heap.size+1) 80 iF zF 8 64 Tryz.underlying94 hiF hF0 hF1 hF2 hFz (by decide) v l xs rfl (HRW.out wE bX) ⟨gE,0,none⟩ 1 1 [.string f.name,.string f.of,.bool f.list,.bool f.must,.bool f.far,.bool f.hidden,.bool f.shared,.slice na f.needs.length nc] rfl rfl (World.news_of_block nE) (by intro u hu;simp at hu;rcases hu with rfl| rfl| rfl| rfl| rfl| rfl| rfl| rfl<;>rfl) (by omega) (by unfold maxLen;omega) (by omega) (by have:=bX.size;omega) _ rfl ?_
    intro gF capF wF oF hgF horF hltF;obtain⟨hsF,hAF⟩:=HEND.out wE bX na nc (HFR.out wE bJX) gF capF wF oF hgF horF;have HAF:=aA0 hAF;clear oF hgF horF hAF;refine hK.out _ _ hsF (fun hHeld=>?_);clear hK K;try simp only[Act.put,sIA,sI0,sIS]
    refine tkH 12 hHeld ?_;refine rdyH [13] ?_;refine rcH (fun K hK=>?_) AllReadyH.nil;obtain⟨hc,hz⟩:=HAF.out.1;go_simp
    clear hc hz;refine hK.out _ _ HAF.out.2.1 (fun hHeld=>?_);clear hK K;try simp only[Act.put,sIA,sI0,sIS]
    refine wpAnyH_done (by kernel_rfl) ?_ _
    have HFN:=aA0 HAF.out.2.2;clear HAF;go_wp2_with fail
    exact⟨⟨l+1,by omega,by go_num,HFN⟩,by simp[intOf];omega⟩
   refine rcH (fun K hK=>?_) AllReadyH.nil;go_simp
   refine(HJF.out wD bX).mono ?_;rintro e wJ ⟨na,nc,rfl,bJ,hFR⟩;have HFR:Hid (∀W,Below wJ.heap.size wJ W->FRep W (fun b=>w6.heap.size<=b∧b<W.heap.size) f (.agg (fcl f na nc).toArray)):=aA0 fun W hW=>(hFR.mono fun b hb=>hW.block b hb.2).sub fun b hb=>⟨Nat.le_trans bX.size hb.1,Nat.lt_of_lt_of_le hb.2 hW.size⟩;have bX:=bX.trans (bJ.mono bX.size);have bJX:=Below.refl wJ.heap.size wJ;clear bJ hFR;refine hK.out _ _ (HS6.out _ bX) (fun hHeld=>?_);clear hK K;try simp only[Act.put,sIA,sI0,sIS]
   refine rdyH [1,10] ?_;refine rcH (fun K hK=>?_) ?_
   ·have hc:=HKC.out wJ bX;go_simp
    clear hc;refine hK.out _ _ (HS6.out _ bX) (fun hHeld=>?_);clear hK K;try simp only[Act.put,sIA,sI0,sIS]
    refine rdyH [10] ?_;refine rcH (fun K hK=>?_) AllReadyH.nil;go_simp
    have bE:=aA2 wJ (.cells #[.string f.name,.string f.of,.bool f.list,.bool f.must,.bool f.far,.bool f.hidden,.bool f.shared,.slice na f.needs.length nc] 80);obtain⟨gE,hgE⟩:∃g,g=wJ.heap.size:=⟨_,rfl⟩;have nE:=aA3 (w:=wJ) (N:=gE) #[.string f.name,.string f.of,.bool f.list,.bool f.must,.bool f.far,.bool f.hidden,.bool f.shared,.slice na f.needs.length nc] 80 hgE.symm;have bX:=bX.trans (bE.mono bX.size);have bJX:=bJX.trans (bE.mono bJX.size);refine hK.out _ _ (HS6.out _ bX) (fun hHeld=>?_);clear hK K;try simp only[Act.put,sIA,sI0,sIS]
    rw[<-hgE];generalize wJ.alloc (.cells #[.string f.name,.string f.of,.bool f.list,.bool f.must,.bool f.far,.bool f.hidden,.bool f.shared,.slice na f.needs.length nc] 80)=wE at*;clear hgE bE;refine rdyH [11] ?_;refine rcH (fun K hK=>?_) AllReadyH.nil;refine step_append_lies _ rfl (.tmp 34) (.tmp 43) 94 rfl (w4.heap.size+1) 80 iF zF 8 64 Tryz.underlying94 hiF hF0 hF1 hF2 hFz (by decide) v l xs rfl (HRW.out wE bX) ⟨gE,0,none⟩ 1 1 [.string f.name,.string f.of,.bool f.list,.bool f.must,.bool f.far,.bool f.hidden,.bool f.shared,.slice na f.needs.length nc] rfl rfl (World.news_of_block nE) (by intro u hu;simp at hu;rcases hu with rfl| rfl| rfl| rfl| rfl| rfl| rfl| rfl<;>rfl) (by omega) (by unfold maxLen;omega) (by omega) (by have:=bX.size;omega) _ rfl ?_
    intro gF capF wF oF hgF horF hltF;obtain⟨hsF,hAF⟩:=HEND.out wE bX na nc (HFR.out wE bJX) gF capF wF oF hgF horF;have HAF:=aA0 hAF;clear oF hgF horF hAF;refine hK.out _ _ hsF (fun hHeld=>?_);clear hK K;try simp only[Act.put,sIA,sI0,sIS]
    refine tkH 12 hHeld ?_;refine rdyH [13] ?_;refine rcH (fun K hK=>?_) AllReadyH.nil;obtain⟨hc,hz⟩:=HAF.out.1;go_simp
    clear hc hz;refine hK.out _ _ HAF.out.2.1 (fun hHeld=>?_);clear hK K;try simp only[Act.put,sIA,sI0,sIS]
    refine wpAnyH_done (by kernel_rfl) ?_ _
    have HFN:=aA0 HAF.out.2.2;clear HAF;go_wp2_with fail
    exact⟨⟨l+1,by omega,by go_num,HFN⟩,by simp[intOf];omega⟩
   refine rcH (fun K hK=>?_) AllReadyH.nil;go_simp
   have bE:=aA2 wJ (.cells #[.string f.name,.string f.of,.bool f.list,.bool f.must,.bool f.far,.bool f.hidden,.bool f.shared,.slice na f.needs.length nc] 80);obtain⟨gE,hgE⟩:∃g,g=wJ.heap.size:=⟨_,rfl⟩;have nE:=aA3 (w:=wJ) (N:=gE) #[.string f.name,.string f.of,.bool f.list,.bool f.must,.bool f.far,.bool f.hidden,.bool f.shared,.slice na f.needs.length nc] 80 hgE.symm;have bX:=bX.trans (bE.mono bX.size);have bJX:=bJX.trans (bE.mono bJX.size);refine hK.out _ _ (HS6.out _ bX) (fun hHeld=>?_);clear hK K;try simp only[Act.put,sIA,sI0,sIS]
   rw[<-hgE];generalize wJ.alloc (.cells #[.string f.name,.string f.of,.bool f.list,.bool f.must,.bool f.far,.bool f.hidden,.bool f.shared,.slice na f.needs.length nc] 80)=wE at*;clear hgE bE;refine rdyH [1] ?_;refine rcH (fun K hK=>?_) AllReadyH.nil;have hc:=HKC.out wE bX;go_simp
   clear hc;refine hK.out _ _ (HS6.out _ bX) (fun hHeld=>?_);clear hK K;try simp only[Act.put,sIA,sI0,sIS]
   refine rdyH [11] ?_;refine rcH (fun K hK=>?_) AllReadyH.nil;refine step_append_lies _ rfl (.tmp 34) (.tmp 43) 94 rfl (w4.heap.size+1) 80 iF zF 8 64 Tryz.underlying94 hiF hF0 hF1 hF2 hFz (by decide) v l xs rfl (HRW.out wE bX) ⟨gE,0,none⟩ 1 1 [.string f.name,.string f.of,.bool f.list,.bool f.must,.bool f.far,.bool f.hidden,.bool f.shared,.slice na f.needs.length nc] rfl rfl (World.news_of_block nE) (by intro u hu;simp at hu;rcases hu with rfl| rfl| rfl| rfl| rfl| rfl| rfl| rfl<;>rfl) (by omega) (by unfold maxLen;omega) (by omega) (by have:=bX.size;omega) _ rfl ?_
   intro gF capF wF oF hgF horF hltF;obtain⟨hsF,hAF⟩:=HEND.out wE bX na nc (HFR.out wE bJX) gF capF wF oF hgF horF;have HAF:=aA0 hAF;clear oF hgF horF hAF;refine hK.out _ _ hsF (fun hHeld=>?_);clear hK K;try simp only[Act.put,sIA,sI0,sIS]
   refine tkH 12 hHeld ?_;refine rdyH [13] ?_;refine rcH (fun K hK=>?_) AllReadyH.nil;obtain⟨hc,hz⟩:=HAF.out.1;go_simp
   clear hc hz;refine hK.out _ _ HAF.out.2.1 (fun hHeld=>?_);clear hK K;try simp only[Act.put,sIA,sI0,sIS]
   refine wpAnyH_done (by kernel_rfl) ?_ _
   have HFN:=aA0 HAF.out.2.2;clear HAF;go_wp2_with fail
   exact⟨⟨l+1,by omega,by go_num,HFN⟩,by simp[intOf];omega⟩
  ·have hli:¬(l:Int)<(fl:Int):=by omega
   have e:l=fl:=by omega
   subst e;have hfx:flX X nm l=(outX X nm).fields:=by rw[HFL.out,flX,List.take_length];rfl
   have hfl:=aRJ X nm l (by rw[HFL.out];exact Nat.le_refl _)
   obtain⟨ra,rc,hN,hrc,hFs⟩:=HL.out.row (by rw[hfl];omega)
   rw[hfl] at hN hrc;rw[hfx] at hFs hfl;have HFs:=aA0 hFs;have HFX:=aA0 hfl;have HNM2:Hid ((outX X nm).name=nm∧(outX X nm).key=key):=aA0 ⟨rfl,by rw[HKY.out];rfl⟩
   have b46:=HL.out.bel;have hlt6:=HL.out.lt;have hz4:=HM4.out.lt;obtain⟨ov,hM4,hRT⟩:=HM4.out.ex;have HRT:=aA0 hRT;obtain⟨C,hC1,hC2⟩:=hRT;rw[HTL.out] at hC1;have HC2:=aA0 hC2;have hM6:=(b46.block w1.heap.size hz4).trans hM4;have HOB:Hid (∀b,ov.ownBlock=some b->w1.heap.size+1<=b∧b<w4.heap.size):=aA0 fun b hb=>hC1.lt b hb;have bA:=aA2 w6 (.cells #[.string nm,.string key,.slice ra l rc] 96);have nA:=aA3 (w:=w6) (N:=w6.heap.size) #[.string nm,.string key,.slice ra l rc] 96 rfl;have zA:(w6.alloc (.cells #[.string nm,.string key,.slice ra l rc] 96)).heap.size=w6.heap.size+1:=by simp
   have b4A:Below w4.heap.size w4 (w6.alloc (.cells #[.string nm,.string key,.slice ra l rc] 96)):=b46.trans (bA.mono (by omega))
   have hrA:=aAE hC1 b4A;obtain⟨m1,-⟩:=aA1 hM6 1 (by simp)
   obtain⟨y0,-⟩:=aA1 hN 0 (by simp)
   obtain⟨y1,-⟩:=aA1 hN 1 (by simp)
   obtain⟨y2,-⟩:=aA1 hN 2 (by simp)
   simp only[List.getElem_toArray,List.getElem_cons_zero,List.getElem_cons_succ] at m1 y0 y1 y2;have HEND:Hid (∀g cap (wF:World),wF.ownsRow (w1.heap.size+1) 96 3 (.slice (some ⟨g,0,none⟩) (k+1) cap) (k+1) (aDG C k++[.string nm,.string key,.slice ra l rc])->(w6.alloc (.cells #[.string nm,.string key,.slice ra l rc] 96)).grownBy wF ov.ownBlock->(ov.ownBlock=some g∨g=w6.heap.size+1)->Hid (AlSt w1 w1.heap.size ⟨#[97]⟩ (tyX X (k+1)) (wF.setCell ⟨w1.heap.size,1,none⟩ (.slice (some ⟨g,0,none⟩) (k+1) cap)))∧wF.heap[w1.heap.size]?=some (.cells #[.string ⟨#[97]⟩,ov] 46 (0,0))):=aA0 fun g cap wF ho hg hor=>by
    have hMA:(w6.alloc (.cells #[.string nm,.string key,.slice ra l rc] 96)).heap[w1.heap.size]?=some (.cells #[.string ⟨#[97]⟩,ov] 46 (0,0)):=(bA.block _ (by omega)).trans hM6
    refine⟨aA0 ?_,(hg.block _ (by omega) fun e=>by have:=HOB.out _ e.symm;omega).trans hMA⟩
    rw[HTS1.out];have hTL:=HTL.out;have h:=AlSt.push (wx:=w6.alloc (.cells #[.string nm,.string key,.slice ra l rc] 96)) hMA (HRT.out.keep (fun b hb=>hb.elim) b4A) (HB4.out.trans (b4A.mono (by omega))) (by omega) (outX X nm) ra rc (w4.heap.size+1) ((HFs.out.mono fun b hb=>bA.block b hb.2).sub fun b hb=>by omega) (by omega) (fun b hb=>by have:=HOB.out b hb;omega) (by rw[HFX.out];exact hrc) (by rw[HNM2.out.1];exact HSZ1.out.1) (by rw[HNM2.out.2];exact HSZ1.out.2) (v':=.slice (some ⟨g,0,none⟩) (k+1) cap) (xs:=aDG C (tyX X k).length) ⟨C,by rw[hTL];exact hrA,rfl,fun i hi=>((HC2.out i hi).mono fun b hb=>hb.elim False.elim fun x=>b4A.block b x.2.1).sub fun b hb=>hb.elim Or.inl fun x=>Or.inr ⟨x.1,by omega,x.2.2⟩⟩ (by rw[HNM2.out.1,HNM2.out.2,HFX.out,hTL];exact ho) hg (by
     rcases hor with hor| hor
     ·exact Or.inl hor.symm
     ·exact Or.inr (by rw[hor,zA];rfl))
    exact h
   obtain⟨xs,hxs⟩:∃xs,xs=aDG C k:=⟨_,rfl⟩;rw[<-hxs] at HEND hrA;obtain⟨iT,zT,hiT,hT0,hT1,hT2,hTz⟩:=aIL;have hk6:k<=100000:=by omega
   have hz14:w1.heap.size+1<=w6.heap.size:=by omega
   clear hxs hC1 hC2 bA b4A b46 hM4 hM6 hN hFs hfx hfl hlt6 hz4;go_wp2_with (
    at_builtin
    refine wpList_append_lies _ rfl _ _ 44 rfl (w1.heap.size+1) 96 iT zT 3 56 Tryz.underlying44 hiT hT0 hT1 hT2 hTz (by decide) ov k xs rfl hrA ⟨w6.heap.size,0,none⟩ 1 1 [.string nm,.string key,.slice ra l rc] rfl rfl (World.news_of_block nA) (by intro u hu;simp at hu;rcases hu with rfl| rfl| rfl<;>rfl) (by omega) (by unfold maxLen;omega) (by omega) (by omega) (w6.heap.size+1) zA ?_
    intro g cap wF ho hg hor hlt1;obtain⟨HF1,hMF⟩:=HEND.out g cap wF ho hg hor;obtain⟨x1,xz⟩:=aA1 hMF 1 (by simp)
    simp only[List.getElem_toArray,List.getElem_cons_zero,List.getElem_cons_succ] at x1;clear hMF ho hg hor)
   exact⟨⟨k+1,by omega,by go_num,HF1⟩,by simp[intOf];omega⟩
 ·have hki:¬(k:Int)<(n:Int):=by omega
  have e:k=n:=by omega
  subst e;have HTX:Hid (tyX X k=X.tn.map (outX X)):=aA0 (by rw[HN.out,tyX,List.take_length])
  have HTL:=aA0 (aRK X k (by rw[HN.out];exact Nat.le_refl _))
  have hz1:=HB1.out.size;have hz2:=HZ1.out;have hlt3:=HK.out.lt;obtain⟨ov0,hM,hRT⟩:=HK.out.ex;obtain⟨oa,on,oc,rfl⟩:∃a m c,ov0=.slice a m c:=by
   obtain⟨C,hC1,-⟩:=hRT;exact aC3 hC1
  have hPP:=hRT.partP (by rw[HTL.out];omega)
  rw[HTX.out] at hPP;have hr:=(HK.out.bel.block (w.heap.size+1) (by omega)).trans HRB.out
  have d0:=(aA1 hM 0 (by simp)).1
  have d1:=(aA1 hM 1 (by simp)).1
  obtain⟨o0,y0⟩:=aA1 hr 0 (by simp)
  obtain⟨o1,y1⟩:=aA1 hr 1 (by simp)
  simp only[List.getElem_toArray,List.getElem_cons_succ,List.getElem_cons_zero] at d0 d1 o0 o1;have HRR:=aA0 (aAC (aAC hr 0 (.string ⟨#[97]⟩)) 1 (.slice oa on oc));have HF:Hid (PRep ((w3.setCell ⟨w.heap.size+1,0,none⟩ (.string ⟨#[97]⟩)).setCell ⟨w.heap.size+1,1,none⟩ (.slice oa on oc)) (fun b=>w.heap.size<=b∧b<((w3.setCell ⟨w.heap.size+1,0,none⟩ (.string ⟨#[97]⟩)).setCell ⟨w.heap.size+1,1,none⟩ (.slice oa on oc)).heap.size) ⟨⟨#[97]⟩,X.tn.map (outX X)⟩ (.agg #[.string ⟨#[97]⟩,.slice oa on oc])∧Below w.heap.size w ((w3.setCell ⟨w.heap.size+1,0,none⟩ (.string ⟨#[97]⟩)).setCell ⟨w.heap.size+1,1,none⟩ (.slice oa on oc))):=aA0 (by
   refine⟨(hPP.mono fun b hb=>?_).sub fun b hb=>?_,?_⟩
   ·rcases hb with hb| hb
    ·exact hb.elim
    ·rw[Below.heap_setCell _ _ _ _ (by show b≠w.heap.size+1;omega),Below.heap_setCell _ _ _ _ (by show b≠w.heap.size+1;omega)]
   ·rcases hb with hb| hb
    ·exact hb.elim
    ·refine⟨by omega,?_⟩
     simpa using hb.2
   ·exact((HBW.out w3 HK.out.bel).setCell (p:=⟨w.heap.size+1,0,none⟩) (by show _<=w.heap.size+1;omega) _).setCell (p:=⟨w.heap.size+1,1,none⟩) (by show _<=w.heap.size+1;omega) _)
  clear hM hRT hPP hr hz1 hz2;go_wp2_with fail
  have hrr:=HRR.out;simp at hrr;have e0:=(aA1 hrr 0 (by simp)).1
  have e1:=(aA1 hrr 1 (by simp)).1
  exact bodyPost_ret (aSW _ _ (w.heap.size+1) (.string ⟨#[97]⟩) (.slice oa on oc) rfl e0 e1) rfl ⟨_,rfl,HF.out.2,HF.out.1⟩
end
end Go.Proofs.YtcebpkeiaiiphaaGreatDoor
