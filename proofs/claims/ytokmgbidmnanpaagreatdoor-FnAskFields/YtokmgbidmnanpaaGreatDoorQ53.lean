import Derived.Test.YtokmgbidmnanpaaGreatDoorQ52
import Derived.Test.YtokmgbidmnanpaaGreatDoorQ32
import Derived.Test.YtokmgbidmnanpaaGreatDoorQ1
import Derived.Deep.RegionHeld3
import Derived.Test.YtokmgbidmnanpaaGreatDoorQ49
import Derived.Test.YtokmgbidmnanpaaGreatDoorQ48
import Derived.Test.YtokmgbidmnanpaaGreatDoorQ42
import Derived.Test.YtokmgbidmnanpaaGreatDoorQ45
import Derived.Test.YtokmgbidmnanpaaGreatDoorQ2
set_option linter.unusedSimpArgs false
set_option linter.unusedVariables false
namespace Go.Proofs.YtokmgbidmnanpaaGreatDoor
open Go.RowKit Go.Shelf Go.Maps
theorem aGI(w1:World)(rb cb:Nat):∀w2 σ c q pb pc ps n,PSt w1 rb cb n w2 σ c q pb pc ps→n≤3→c≤56→Calls Tryz.prog 54 #[.slice (some ⟨pb,0,none⟩) n pc] w2 fun e w'=>∃(p:Pt) (v:Value),e=.returned v∧PRep w' (fun b=>w1.heap.size≤b∧b<w'.heap.size) p v∧szP p≤1048576∧aLE p∧0<p.types.length∧Below w2.heap.size w2 w':=fun w2 σ c q pb pc ps n hP h3 hc=>by
 obtain⟨qs,hql,hqs,hqz⟩:=hP.list h3 hc
 subst hql
 exact(aQK qs w2 w1.heap.size w2.heap.size (some ⟨pb,0,none⟩) pc hqs (Nat.le_refl _) (fun i hi=>Nat.le_trans (hqz i hi) (by omega))).mono fun e w' h=>h.low hP.only.size (Nat.le_refl _)
theorem aO9{F L m:Nat}{ks:List Se}{a:Option Addr}{w:World}(hF:F≤1000000000)(hTr:Tr m F ks)(hSA:SA w L ks a)(hT:Tab w.heap.size w):aJO F ks (fun b=>L≤b∧b<w.heap.size∧aBK w b) w.heap.size a w:=
 ⟨hTr.fit,hTr.small F,hF,hSA,fun b hb=>hb.2,Nat.le_refl _,hT⟩
end Go.Proofs.YtokmgbidmnanpaaGreatDoor
namespace Go.Proofs.YtokmgbidmnanpaaGreatDoor
open Go.RowKit Go.Shelf Go.Maps
attribute [local go_sem] Oper.semAt_some
theorem aHX.below{w w':World}{cb n:Nat}{v:Value}(h:aHX w cb v n)(hb:Below w.heap.size w w'):aHX w' cb v n:=by
 obtain⟨a,c,off,h1,h2,h3,h4,h5,h6,h7⟩:=h
 exact⟨a,c,off,h1,h2,h3,by have:=hb.size;omega,h5,h6,fun i hi=>by obtain⟨x,hx,hc⟩:=h7 i hi;exact⟨x,hx,(hb.cell (p:=⟨cb,off+i,none⟩) h4).trans hc⟩⟩
theorem aLT(FW:World)(tmps:Array Value)(N:Nat)(v0 v1 s1:Value)(h2:tmps.getD 2 undef=.pointer (some ⟨N,0,none⟩))(h3:tmps.getD 3 undef=s1)
  (d0:FW.cell? ⟨N,0,none⟩=some v0) (d1:FW.cell? ⟨N,1,none⟩=some v1):
  (results Tryz.f34 tmps).run Tryz.prog FW=.ok (.tuple #[.agg #[v0,v1],s1]) FW:=by
 simp only[Array.getD_eq_getD_getElem?] at h2 h3
 simp[results,Tryz.results34,go_sem,h2,h3,d0,d1]
def aP2(w:World)(e:Ending)(w':World):Prop:=∃(p:Pt) (ta:Option Addr) (tc:Nat) (ks:List Se) (a:Option Addr) (c:Nat),e=.returned (.tuple #[.agg #[.string p.name,.slice ta p.types.length tc],.slice a ks.length c])∧PRep w' (fun b=>w.heap.size≤b∧b<w'.heap.size) p (.agg #[.string p.name,.slice ta p.types.length tc])∧szP p≤1048576∧aLE p∧0<p.types.length∧SA w' w.heap.size ks a∧(Tr 4 6 ks∧ks.length≤c)∧Below w.heap.size w w'
set_option maxRecDepth 20000 in
set_option maxHeartbeats 3200000 in
theorem aI9(w:World)(cb n:Nat)(v:Value)(h:aHX w cb v n)(hn:n≤1048576):
  Calls Tryz.prog 34 #[v] w (aP2 w):=by
 have HOP:=aA0 (aPY (w.alloc (.cells #[.string ⟨#[]⟩,.slice none 0 0] 43)) cb n v (h.below (aA2 w _)) hn)
 clear h
 go_enter Tryz.func34,Tryz.ntmps34
 go_upto_region 2 with(
  go_at_call 52
  refine HOP.out.mono ?_
  rintro e w1 ⟨rb,rfl,hrb,hR,hb1⟩)
 have hrb':w.heap.size+1≤rb:=by simpa using hrb
 have bx1:=(hb1.block w.heap.size (by simp)).trans (aA3 (w:=w) #[.string ⟨#[]⟩,.slice none 0 0] 43 rfl)
 have b1:Below w.heap.size w w1:=(aA2 w _).trans (hb1.mono (by simp))
 have hsz1:w.heap.size+1≤w1.heap.size:=by simpa using hb1.size
 have HPT:=aA0 (aI1 w1 rb cb 0 hR (by omega))
 have HAL:=aA0 (aGI w1 rb cb)
 clear HOP hb1 hrb hR
 go_upto_region 3 with(
  first
   |(
    go_at_call 55
    refine HPT.out.mono ?_
    rintro e w2 ⟨m,σ,c,q,pb,pc,ps,rfl,hm1,hm3,hc,hq,hP⟩
    have HP:=aA0 hP
    have HA:=aA0 (HAL.out w2 σ c q pb pc ps m hP hm3 hc)
    clear hP)
   |(
    go_at_call 54
    refine HA.out.mono ?_
    rintro e w3 ⟨p,v3,rfl,hPR,hz,hF,h0,b3⟩
    have HPR:=aA0 hPR
    obtain⟨ta,tc,rfl,-,-,-⟩:=hPR))
 obtain⟨l,HL⟩:∃l,Hid (l=p.types.length):=⟨_,rfl⟩
 rw[←HL.out] at HPR ⊢
 have bX:=aA2 w3 (.cells #[.string p.name,.slice ta l tc] 43)
 have nX:=aA3 (w:=w3) (N:=w3.heap.size) #[.string p.name,.slice ta l tc] 43 rfl
 have zX:(w3.alloc (.cells #[.string p.name,.slice ta l tc] 43)).heap.size=w3.heap.size+1:=by simp
 have HR3:=aA0 (HP.out.rd.only (Only.of_below (fun _=>False) b3) id id)
 have HO3:=aA0 (HP.out.only.trans (Only.of_below (·=rb) b3) fun _ _ q=>q)
 have hr1:rb<w1.heap.size:=HP.out.rlt
 have hw13:w1.heap.size≤w3.heap.size:=HO3.out.size
 generalize w3.alloc (.cells #[.string p.name,.slice ta l tc] 43)=X at*
 have HRX:=aA0 (HR3.out.only (Only.of_below (fun _=>False) bX) id id)
 have HOX:=aA0 (HO3.out.trans (Only.of_below (·=rb) bX) fun _ _ q=>q)
 have HPX:Hid (∀W,Only (·=rb) X W→PRep W (fun b=>w1.heap.size≤b∧b<w3.heap.size) p (.agg #[.string p.name,.slice ta l tc])):=aA0 fun W hW=>HPR.out.mono fun b hb=>(hW.block b (by omega) (by omega)).trans (bX.block b hb.2)
 have HSD:Hid (∀W,Only (·=rb) X W→W.cell? ⟨w3.heap.size,0,none⟩=some (.string p.name)∧W.cell? ⟨w3.heap.size,1,none⟩=some (.slice ta l tc)):=aA0 fun W hW=>by
  have h:=(hW.block w3.heap.size (by omega) (by omega)).trans nX
  exact⟨(aA1 h 0 (by simp)).1,(aA1 h 1 (by simp)).1⟩
 have HRB:Hid (∀W,Only (·=rb) X W→W.heap[w.heap.size]?=some (.cells #[.string ⟨#[]⟩,.slice none 0 0] 43 (0,0))):=aA0 fun W hW=>(hW.block w.heap.size (by omega) (by omega)).trans ((HOX.out.block w.heap.size (by omega) (by omega)).trans bx1)
 have HST:Hid (∀W,Only (·=rb) X W→((W.setCell ⟨w.heap.size,0,none⟩ (.string p.name)).setCell ⟨w.heap.size,1,none⟩ (.slice ta l tc)).cell? ⟨w3.heap.size,0,none⟩=some (.string p.name)∧((W.setCell ⟨w.heap.size,0,none⟩ (.string p.name)).setCell ⟨w.heap.size,1,none⟩ (.slice ta l tc)).cell? ⟨w3.heap.size,1,none⟩=some (.slice ta l tc)):=aA0 fun W hW=>by
  have hb:((W.setCell ⟨w.heap.size,0,none⟩ (.string p.name)).setCell ⟨w.heap.size,1,none⟩ (.slice ta l tc)).heap[w3.heap.size]?=W.heap[w3.heap.size]?:=by
   rw[Below.heap_setCell _ _ _ _ (by show w3.heap.size≠w.heap.size;omega),Below.heap_setCell _ _ _ _ (by show w3.heap.size≠w.heap.size;omega)]
  have h0:=HSD.out W hW
  exact⟨(World.cell?_of_block (a:=⟨w3.heap.size,0,none⟩) hb).trans h0.1,(World.cell?_of_block (a:=⟨w3.heap.size,1,none⟩) hb).trans h0.2⟩
 have HEND:Hid (∀W,Only (·=rb) X W→∀(ks:List Se) (a:Option Addr) (c:Nat),SA W X.heap.size ks a→Tr 4 6 ks∧ks.length≤c→aP2 w (.returned (.tuple #[.agg #[.string p.name,.slice ta l tc],.slice a ks.length c])) ((W.setCell ⟨w.heap.size,0,none⟩ (.string p.name)).setCell ⟨w.heap.size,1,none⟩ (.slice ta l tc))):=aA0 fun W hW ks a c hS hT=>by
  have hzW:=hW.size
  have hbl:∀b,b≠w.heap.size→((W.setCell ⟨w.heap.size,0,none⟩ (.string p.name)).setCell ⟨w.heap.size,1,none⟩ (.slice ta l tc)).heap[b]?=W.heap[b]?:=fun b hb=>(Below.heap_setCell _ _ _ _ hb).trans (Below.heap_setCell _ _ _ _ hb)
  have hsz:((W.setCell ⟨w.heap.size,0,none⟩ (.string p.name)).setCell ⟨w.heap.size,1,none⟩ (.slice ta l tc)).heap.size=W.heap.size:=by simp
  have hP3:=((HPX.out W hW).mono (w':=(W.setCell ⟨w.heap.size,0,none⟩ (.string p.name)).setCell ⟨w.heap.size,1,none⟩ (.slice ta l tc)) fun b hb=>hbl b (by omega)).sub (Q:=fun b=>w.heap.size≤b∧b<((W.setCell ⟨w.heap.size,0,none⟩ (.string p.name)).setCell ⟨w.heap.size,1,none⟩ (.slice ta l tc)).heap.size) fun b hb=>by rw[hsz];omega
  have hS3:=(hS.keep (W':=(W.setCell ⟨w.heap.size,0,none⟩ (.string p.name)).setCell ⟨w.heap.size,1,none⟩ (.slice ta l tc)) (fun b hb _=>hbl b (by omega)) (by omega)).low (L':=w.heap.size) (by omega)
  have bW:Below w.heap.size w W:=b1.trans ((HOX.out.trans hW fun _ _ q=>q).below (by omega) fun b hb e=>by omega)
  rw[HL.out] at hP3 hS3 ⊢
  exact⟨p,ta,tc,ks,a,c,rfl,hP3,hz,hF,h0,hS3,hT,(bW.setCell (p:=⟨w.heap.size,0,none⟩) (Nat.le_refl _) _).setCell (p:=⟨w.heap.size,1,none⟩) (Nat.le_refl _) _⟩
 have HPV:Hid (∀W,Only (·=rb) X W→PRep W (fun b=>b<W.heap.size∧b≠rb) p (.agg #[.string p.name,.slice ta l tc])):=aA0 fun W hW=>(HPX.out W hW).sub fun b hb=>by have:=hW.size;omega
 have HK:=aA0 (aKW X rb cb _ p (fun b=>b<X.heap.size∧b≠rb) _ HRX.out (by rw[pkN5];omega) (HPV.out X (Only.refl _ _)) (fun b hb=>hb) hF hz h0)
 clear HPT HAL HA bX nX b3 HR3 HO3 HPR HPV
 obtain⟨p0,p1⟩:=HSD.out X (Only.refl _ _)
 go_upto_region 4 with(
  go_at_call 53
  refine HK.out.mono ?_
  rintro e w4 ⟨ks,ka,kc,q4,rfl,hSA,r4,hq4,o4,hSO⟩)
 rw[pkN5] at hq4
 have HO4:=aA0 o4
 have HS4:=aA0 hSA
 have HT4:=aA0 hSO
 have HPK:=aA0 (aBA w4 rb cb q4 4 r4 (by omega) (by omega) (by omega))
 clear hSA r4 o4 hSO HK p0 p1
 go_upto_if 17 with(
  go_at_call 56
  refine HPK.out.mono ?_
  rintro e w5 ⟨x,rfl,hx,r5,o5,z5⟩)
 have HR5:=aA0 r5
 have HO5:=aA0 (HO4.out.trans o5 fun _ _ q=>q)
 have hz4:=HO4.out.size
 have HS5:=aA0 (HS4.out.keep (fun b hb hb2=>o5.block b hb2 (by omega)) o5.size)
 clear r5 o5 HPK hx HO4 HS4 z5
 by_cases hx0:x=0
 ·subst hx0
  go_upto_region 6 with fail
  refine wp_region_held_drew (S:=(fun w'=>w'.cell? ⟨w3.heap.size,0,none⟩=some (.string p.name)∧w'.cell? ⟨w3.heap.size,1,none⟩=some (.slice ta l tc))) (by kernel_rfl) (HSD.out _ (HO5.out.trans (Only.of_below (·=rb) (Below.refl _ _).drew) (fun _ _ q=>q))) (fun hHeld=>?_)
  have oX:Only (·=rb) X w5.drew:=(HO5.out.trans (Only.of_below (·=rb) (Below.refl _ _).drew) (fun _ _ q=>q))
  have rX:=HR5.out.only (Only.of_below (fun _=>False) (Below.refl w5.heap.size w5).drew) id id
  have sX:=HS5.out.below (Below.refl w5.heap.size w5).drew
  generalize w5.drew=wE0 at*
  have hrX:rb<wE0.heap.size:=rX.lt.1
  have hzX:X.heap.size≤wE0.heap.size:=oX.size
  refine tkH 0 hHeld ?_
  refine tkH 1 hHeld ?_
  refine tkH 2 hHeld ?_
  refine rdyH [3] ?_
  refine rcH (fun K hK=>?_) AllReadyH.nil
  go_simp
  refine(aIA 5 (by omega) ks wE0 rb cb (q4+1) (fun b=>b<wE0.heap.size∧b≠rb) ka kc rX (by omega) HT4.out (aAA.sub sX fun b hb=>⟨hb.2.1,by have:=hb.1;omega⟩) (fun b hb=>hb)).mono ?_
  rintro e wC ⟨ks',ka',kc',q7,rfl,hS7,r7,hq7,o7,hT7⟩
  have oX:=oX.trans o7 (fun _ _ q=>q)
  have hSX:=hS7.low hzX
  have hTX:=And.intro hT7 hq7.2
  refine hK.out _ _ (HSD.out _ oX) (fun hHeld=>?_)
  clear hK K
  try simp only[Act.put,List.setIfInBounds_toArray,List.set_cons_zero,List.set_cons_succ]
  refine rdyH [4] ?_
  refine rcH (fun K hK=>?_) AllReadyH.nil
  obtain⟨c0,z0⟩:=aA1 (HRB.out _ oX) 0 (by simp)
  obtain⟨c1,z1⟩:=aA1 (HRB.out _ oX) 1 (by simp)
  simp only[List.getElem_toArray,List.getElem_cons_zero,List.getElem_cons_succ] at c0 c1
  go_simp
  clear c0 c1 z0 z1
  refine hK.out _ _ (HST.out _ oX) (fun hHeld=>?_)
  clear hK K
  try simp only[Act.put,List.setIfInBounds_toArray,List.set_cons_zero,List.set_cons_succ]
  refine tkH 5 hHeld ?_
  refine wpAnyH_done (by kernel_rfl) ?_ _
  have HFIN:=HEND.out _ oX ks' ka' kc' hSX hTX
  have hdd:=aB3 (HRB.out _ oX) (.string p.name) (.slice ta l tc)
  go_wp2_with fail
  exact bodyPost_ret (aLT _ _ w.heap.size (.string p.name) (.slice ta l tc) _ rfl rfl hdd.1 hdd.2) rfl HFIN
 have hx0i:¬(x:Int)=0:=by omega
 by_cases hx1:x=1
 ·subst hx1
  go_upto_region 8 with fail
  refine wp_region_held_drew (S:=(fun w'=>w'.cell? ⟨w3.heap.size,0,none⟩=some (.string p.name)∧w'.cell? ⟨w3.heap.size,1,none⟩=some (.slice ta l tc))) (by kernel_rfl) (HSD.out _ (HO5.out.trans (Only.of_below (·=rb) (Below.refl _ _).drew) (fun _ _ q=>q))) (fun hHeld=>?_)
  have oX:Only (·=rb) X w5.drew:=(HO5.out.trans (Only.of_below (·=rb) (Below.refl _ _).drew) (fun _ _ q=>q))
  have rX:=HR5.out.only (Only.of_below (fun _=>False) (Below.refl w5.heap.size w5).drew) id id
  have sX:=HS5.out.below (Below.refl w5.heap.size w5).drew
  generalize w5.drew=wE0 at*
  have hrX:rb<wE0.heap.size:=rX.lt.1
  have hzX:X.heap.size≤wE0.heap.size:=oX.size
  refine tkH 0 hHeld ?_
  refine tkH 1 hHeld ?_
  refine tkH 2 hHeld ?_
  refine rdyH [3] ?_
  refine rcH (fun K hK=>?_) AllReadyH.nil
  go_simp
  refine(aI1 wE0 rb cb (q4+1) rX (by omega)).mono ?_
  rintro e wC ⟨m',σ',c',q',pb',pc',ps',rfl,hm1',hm3',hc',hq',hP'⟩
  have oX:=oX.trans hP'.only (fun _ _ q=>q)
  refine hK.out _ _ (HSD.out _ oX) (fun hHeld=>?_)
  clear hK K
  try simp only[Act.put,List.setIfInBounds_toArray,List.set_cons_zero,List.set_cons_succ]
  refine rdyH [4] ?_
  refine rcH (fun K hK=>?_) AllReadyH.nil
  go_simp
  refine(aGI wE0 rb cb wC σ' c' q' pb' pc' ps' m' hP' hm3' hc').mono ?_
  rintro e wD ⟨p',v',rfl,hPR',hz',hF',h0',bD⟩
  have oX:=oX.trans (Only.of_below (·=rb) bD) (fun _ _ q=>q)
  have rD:=hP'.rd.only (Only.of_below (fun _=>False) bD) id id
  refine hK.out _ _ (HSD.out _ oX) (fun hHeld=>?_)
  clear hK K
  try simp only[Act.put,List.setIfInBounds_toArray,List.set_cons_zero,List.set_cons_succ]
  refine rdyH [5] ?_
  refine rcH (fun K hK=>?_) AllReadyH.nil
  go_simp
  refine(aKW wD rb cb q' p' (fun b=>wE0.heap.size≤b∧b<wD.heap.size) v' rD (by rw[pkN5];omega) hPR' (fun b hb=>⟨hb.2,by omega⟩) hF' hz' h0').mono ?_
  rintro e wE ⟨ks',ka',kc',q7,rfl,hS7,r7,hq7,o7,hT7⟩
  have hSX:=hS7.low oX.size
  have oX:=oX.trans o7 (fun _ _ q=>q)
  have hTX:=And.intro (Tr.up (m:=3) (m':=4) (by omega) (show 5≤6 by omega) hT7) hq7.2
  refine hK.out _ _ (HSD.out _ oX) (fun hHeld=>?_)
  clear hK K
  try simp only[Act.put,List.setIfInBounds_toArray,List.set_cons_zero,List.set_cons_succ]
  refine rdyH [6] ?_
  refine rcH (fun K hK=>?_) AllReadyH.nil
  obtain⟨c0,z0⟩:=aA1 (HRB.out _ oX) 0 (by simp)
  obtain⟨c1,z1⟩:=aA1 (HRB.out _ oX) 1 (by simp)
  simp only[List.getElem_toArray,List.getElem_cons_zero,List.getElem_cons_succ] at c0 c1
  go_simp
  clear c0 c1 z0 z1
  refine hK.out _ _ (HST.out _ oX) (fun hHeld=>?_)
  clear hK K
  try simp only[Act.put,List.setIfInBounds_toArray,List.set_cons_zero,List.set_cons_succ]
  refine tkH 7 hHeld ?_
  refine wpAnyH_done (by kernel_rfl) ?_ _
  have HFIN:=HEND.out _ oX ks' ka' kc' hSX hTX
  have hdd:=aB3 (HRB.out _ oX) (.string p.name) (.slice ta l tc)
  go_wp2_with fail
  exact bodyPost_ret (aLT _ _ w.heap.size (.string p.name) (.slice ta l tc) _ rfl rfl hdd.1 hdd.2) rfl HFIN
 have hx1i:¬(x:Int)=1:=by omega
 obtain⟨p0,p1⟩:=HSD.out w5 HO5.out
 obtain⟨c0,z0⟩:=aA1 (HRB.out _ HO5.out) 0 (by simp)
 obtain⟨c1,z1⟩:=aA1 (HRB.out _ HO5.out) 1 (by simp)
 simp only[List.getElem_toArray,List.getElem_cons_zero,List.getElem_cons_succ] at c0 c1
 have HFIN:=aA0 (HEND.out w5 HO5.out ks ka kc HS5.out ⟨Tr.up (by omega) (by omega) HT4.out,hq4.2⟩)
 have hdd:=aB3 (HRB.out _ HO5.out) (.string p.name) (.slice ta l tc)
 go_wp2_with fail
 exact bodyPost_ret (aLT _ _ w.heap.size (.string p.name) (.slice ta l tc) _ rfl rfl hdd.1 hdd.2) rfl HFIN.out
end Go.Proofs.YtokmgbidmnanpaaGreatDoor
namespace Go.Proofs.YtokmgbidmnanpaaGreatDoor
open Go.RowKit Go.Shelf Go.Maps
attribute [local go_sem] Oper.semAt_some
theorem aRL(FW:World)(tmps:Array Value)(N:Nat)(v0 v1 s1:Value)(h2:tmps.getD 2 undef=.pointer (some ⟨N,0,none⟩))(h3:tmps.getD 3 undef=s1)
  (d0:FW.cell? ⟨N,0,none⟩=some v0) (d1:FW.cell? ⟨N,1,none⟩=some v1):
  (results Tryz.f29 tmps).run Tryz.prog FW=.ok (.tuple #[.agg #[v0,v1],s1]) FW:=by
 simp only[Array.getD_eq_getD_getElem?] at h2 h3
 simp[results,Tryz.results29,go_sem,h2,h3,d0,d1]
set_option maxRecDepth 20000 in
set_option maxHeartbeats 1600000 in
theorem aHA(w:World)(cb n:Nat)(v:Value)(h:aHX w cb v n)(hn:n≤1048576):
  Calls Tryz.prog 29 #[v] w (aP2 w):=by
 have HD:=aA0 (aI9 (w.alloc (.cells #[.string ⟨#[]⟩,.slice none 0 0] 43)) cb n v (h.below (aA2 w _)) hn)
 have bx0:=aA3 (w:=w) (N:=w.heap.size) #[.string ⟨#[]⟩,.slice none 0 0] 43 rfl
 have bb0:=aA2 w (.cells #[.string ⟨#[]⟩,.slice none 0 0] 43)
 have zz0:(w.alloc (.cells #[.string ⟨#[]⟩,.slice none 0 0] 43)).heap.size=w.heap.size+1:=by simp
 have HZ0:=aA0 zz0
 clear h
 go_enter Tryz.func29,Tryz.ntmps29
 go_upto_region 1 with fail
 generalize w.alloc (.cells #[.string ⟨#[]⟩,.slice none 0 0] 43)=X at*
 clear zz0
 have HC:Hid (∀W,Below X.heap.size X W→W.heap[w.heap.size]?=some (.cells #[.string ⟨#[]⟩,.slice none 0 0] 43 (0,0))):=aA0 fun W hW=>(hW.block _ (by have:=HZ0.out;omega)).trans bx0
 have HE:Hid (∀W (p:Pt) (ta:Option Addr) (tc:Nat) (ks:List Se) (a:Option Addr) (c:Nat),PRep W (fun b=>X.heap.size≤b∧b<W.heap.size) p (.agg #[.string p.name,.slice ta p.types.length tc])→szP p≤1048576→aLE p→0<p.types.length→SA W X.heap.size ks a→Tr 4 6 ks∧ks.length≤c→Below X.heap.size X W→aP2 w (.returned (.tuple #[.agg #[.string p.name,.slice ta p.types.length tc],.slice a ks.length c])) ((W.setCell ⟨w.heap.size,0,none⟩ (.string p.name)).setCell ⟨w.heap.size,1,none⟩ (.slice ta p.types.length tc))):=aA0 fun W p ta tc ks a c hP hz hF h0 hS hT hW=>by
  have hz0:=HZ0.out
  have hbl:∀b,b≠w.heap.size→((W.setCell ⟨w.heap.size,0,none⟩ (.string p.name)).setCell ⟨w.heap.size,1,none⟩ (.slice ta p.types.length tc)).heap[b]?=W.heap[b]?:=fun b hb=>(Below.heap_setCell _ _ _ _ hb).trans (Below.heap_setCell _ _ _ _ hb)
  have hsz:((W.setCell ⟨w.heap.size,0,none⟩ (.string p.name)).setCell ⟨w.heap.size,1,none⟩ (.slice ta p.types.length tc)).heap.size=W.heap.size:=by simp
  have hP3:=(hP.mono (w':=(W.setCell ⟨w.heap.size,0,none⟩ (.string p.name)).setCell ⟨w.heap.size,1,none⟩ (.slice ta p.types.length tc)) fun b hb=>hbl b (by omega)).sub (Q:=fun b=>w.heap.size≤b∧b<((W.setCell ⟨w.heap.size,0,none⟩ (.string p.name)).setCell ⟨w.heap.size,1,none⟩ (.slice ta p.types.length tc)).heap.size) fun b hb=>by rw[hsz];omega
  have hS3:=(hS.keep (W':=(W.setCell ⟨w.heap.size,0,none⟩ (.string p.name)).setCell ⟨w.heap.size,1,none⟩ (.slice ta p.types.length tc)) (fun b hb _=>hbl b (by omega)) (by omega)).low (L':=w.heap.size) (by omega)
  have bW:Below w.heap.size w W:=bb0.trans (hW.mono (by omega))
  exact⟨p,ta,tc,ks,a,c,rfl,hP3,hz,hF,h0,hS3,hT,(bW.setCell (p:=⟨w.heap.size,0,none⟩) (Nat.le_refl _) _).setCell (p:=⟨w.heap.size,1,none⟩) (Nat.le_refl _) _⟩
 go_wp2_with fail
 refine HD.out.mono ?_
 rintro e w1 ⟨p,ta,tc,ks,a,c,rfl,hP,hz,hF,h0,hS,hT,hb⟩
 obtain⟨c0,z0⟩:=aA1 (HC.out _ hb) 0 (by simp)
 obtain⟨c1,z1⟩:=aA1 (HC.out _ hb) 1 (by simp)
 simp only[List.getElem_toArray,List.getElem_cons_zero,List.getElem_cons_succ] at c0 c1
 have HFIN:=aA0 (HE.out w1 p ta tc ks a c hP hz hF h0 hS hT hb)
 have hdd:=aB3 (HC.out _ hb) (.string p.name) (.slice ta p.types.length tc)
 generalize p.types.length=l at*
 clear hP hz hF h0 hS hT hb
 go_wp2_with fail
 exact bodyPost_ret (aRL _ _ w.heap.size (.string p.name) (.slice ta l tc) _ rfl rfl hdd.1 hdd.2) rfl HFIN.out
end Go.Proofs.YtokmgbidmnanpaaGreatDoor
namespace Go.Proofs.YtokmgbidmnanpaaGreatDoor
open Go.RowKit Go.Shelf Go.Maps
attribute [local go_sem] Oper.semAt_some
theorem aAA.take{w:World}{P:Nat→Prop}{ks:List Se}{a:Option Addr}(m:Nat)(h:aAA w P ks a):aAA w P (ks.take m) a:=by
 obtain⟨h0,C,hA,hr⟩:=h
 have hl:(ks.take m).length≤ks.length∧(ks.take m).length≤m:=by rw[List.length_take];omega
 refine⟨by omega,C,fun hn=>?_,fun i hi=>?_⟩
 ·obtain⟨b,off,e,hb,hc⟩:=hA (by omega)
  exact⟨b,off,e,hb,fun i hi=>hc i (by omega)⟩
 ·rw[aFO ks (by omega)]
  exact hr i (by omega)
theorem FitS.take{f:Nat}{ks:List Se}(m:Nat)(h:FitS f ks):FitS f (ks.take m):=by
 cases f with
 |zero=>have e:ks=[]:=h;subst e;simp[FitS]
 |succ f=>intro i hi;rw[List.length_take] at hi;rw[aFO ks (by omega)];exact h i (by omega)
theorem aEJ.take{f:Nat}{ks:List Se}(m:Nat)(h:aEJ f ks):aEJ f (ks.take m):=by
 cases f with
 |zero=>trivial
 |succ f=>intro i hi;rw[List.length_take] at hi;rw[aFO ks (by omega)];exact h i (by omega)
theorem aJO.take{f:Nat}{ks:List Se}{P:Nat→Prop}{B:Nat}{ka:Option Addr}{w:World}(m:Nat)(h:aJO f ks P B ka w):aJO f (ks.take m) P B ka w:=
 ⟨h.fit.take m,h.small.take m,h.few,h.rep.take m,h.apart,h.le,h.tab⟩
theorem aNA.strs{w w':World}{l:List ByteArray}{e:Ending}(h:aNA w l e w'):∃a c,e=.returned (.slice a l.length c)∧Strs w' (fun b=>w.heap.size≤b∧b<w'.heap.size) l a∧l.length≤c∧Below w.heap.size w w':=by
 obtain⟨a,c,rfl,hr,hb⟩:=h
 obtain⟨a',c',e,hS⟩:=hr.strs
 simp only[Value.slice.injEq,true_and] at e
 obtain⟨rfl,rfl⟩:=e
 refine⟨a,c,rfl,hS,?_,hb⟩
 rcases hr.1.2 with⟨e,h0⟩| ⟨g,cap,cur,e,-,-,hc,-⟩
 ·omega
 ·simp only[Value.slice.injEq,true_and] at e
  omega
set_option maxRecDepth 20000 in
set_option maxHeartbeats 3200000 in
theorem aPT(w:World)(cb n:Nat)(v:Value)(h:aHX w cb v n)(hT:Tab w.heap.size w):
  Calls Tryz.prog 6 #[v] w fun e w'=>e=.returned (.bool true)∧Below w.heap.size w w':=by
 by_cases hn:1048576<n
 ·obtain⟨a,c,off,rfl,-⟩:=h
  have h1':(1048576:Int)<(n:Int):=by omega
  go_enter Tryz.func6,Tryz.ntmps6
  go_wp2_with fail
  go_ret
  exact⟨rfl,Below.refl _ _⟩
 have HDR:=aA0 (aHA w cb n v h (by omega))
 have HT:=aA0 hT
 obtain⟨a,cc,off,rfl,-⟩:=h
 have h1':¬(1048576:Int)<(n:Int):=by omega
 clear hT
 go_enter Tryz.func6,Tryz.ntmps6
 go_wp2_with fail
 refine HDR.out.mono ?_
 rintro e w1 ⟨p,ta,tc,ks,ka,kc,rfl,hPR,hz,hFO,h0,hSA,⟨hTr,hkc⟩,hb1⟩
 clear HDR h1' hn
 obtain⟨F,hFn,hTr⟩:∃F:Nat,F≤1000000000∧Tr 4 F ks:=⟨6,by omega,hTr⟩
 have bX:=aA2 w1 (.cells #[.string p.name,.slice ta p.types.length tc] 43)
 have HB1:=aA0 (hb1.trans (bX.mono hb1.size))
 have HA1:=aA0 (aO9 hFn hTr hSA ((HT.out.on hb1).up hb1.size))
 have HF:=aA0 hTr.fit
 have HS:=aA0 (hTr.small F)
 have HO:=aA0 hSA.old
 have HPV:=aA0 (hPR.sub (Q:=fun b=>b<w1.heap.size) fun b hb=>hb.2)
 have HFn:=aA0 hFn
 have nX:=aA3 (w:=w1) (N:=w1.heap.size) #[.string p.name,.slice ta p.types.length tc] 43 rfl
 have zX:(w1.alloc (.cells #[.string p.name,.slice ta p.types.length tc] 43)).heap.size=w1.heap.size+1:=by simp
 have HX:=aA0 bX
 have HZX:=aA0 zX
 clear hPR hTr hSA hb1 HT h0 hFO hFn
 obtain⟨l,HL⟩:∃l,Hid (l=p.types.length):=⟨_,aA0 rfl⟩
 rw[←HL.out] at HPV HB1 HX HZX nX bX zX ⊢
 go_upto_region 4 with fail
 generalize w1.alloc (.cells #[.string p.name,.slice ta l tc] 43)=X at*
 clear bX zX
 have HC:Hid (∀W,Below X.heap.size X W→W.cell? ⟨w1.heap.size,0,none⟩=some (.string p.name)∧W.cell? ⟨w1.heap.size,1,none⟩=some (.slice ta l tc)):=aA0 fun W hW=>by
  have h:=(hW.block w1.heap.size (by have:=HZX.out;omega)).trans nX
  exact⟨(aA1 h 0 (by simp)).1,(aA1 h 1 (by simp)).1⟩
 have HBX:Hid (∀W,Below X.heap.size X W→Below w1.heap.size w1 W∧w1.heap.size≤W.heap.size):=aA0 fun W hW=>⟨HX.out.trans (hW.mono HX.out.size),by have:=HX.out.size;have:=hW.size;omega⟩
 have HPW:Hid (∀W,Below X.heap.size X W→PRep W (·<W.heap.size) p (.agg #[.string p.name,.slice ta l tc])):=aA0 fun W hW=>(HPV.out.under (HBX.out W hW).1).sub fun b hb=>by have:=(HBX.out W hW).2;omega
 have HKW:Hid (∀W,Below X.heap.size X W→aAA W (·<W.heap.size) ks ka):=aA0 fun W hW=>(HO.out.under (HBX.out W hW).1).sub fun b hb=>by have:=(HBX.out W hW).2;omega
 have HAW:Hid (∀W,Below X.heap.size X W→aJO F ks (fun b=>w.heap.size≤b∧b<w1.heap.size∧aBK w1 b) w1.heap.size ka W):=aA0 fun W hW=>HA1.out.on (HBX.out W hW).1
 have HFI:=aA0 (fun W (hW:Below X.heap.size X W)=>(aG1 F p ks _ _ ka kc _ W (HAW.out W hW) (HPW.out W hW) hz).mono fun e w' h=>h.strs)
 have HFS:=aA0 (fun W (hW:Below X.heap.size X W)=>(aK4 F p ks ka kc _ W HF.out (HKW.out W hW) HFn.out (HPW.out W hW) hz).mono fun e w' h=>h.strs)
 have HCI:=aA0 (fun W (hW:Below X.heap.size X W)=>(aGN F p ks _ _ ka kc _ W (HAW.out W hW) (HPW.out W hW) hz).mono fun e w' h=>show∃a n c,e=.returned (.agg #[.slice a n c,.int .i64 (aCE (aBM F p ks))])∧Below W.heap.size W w' from by obtain⟨a,c,h1,-,h2⟩:=h;exact⟨a,_,c,h1,h2⟩)
 have HCS:=aA0 (fun W (hW:Below X.heap.size X W)=>(aEZ F p ks ka kc _ W HF.out (HKW.out W hW) HFn.out (HPW.out W hW) hz).mono fun e w' h=>show∃a n c,e=.returned (.agg #[.slice a n c,.int .i64 (aCE (aBM F p ks))])∧Below W.heap.size W w' from by obtain⟨a,c,h1,-,h2⟩:=h;exact⟨a,_,c,h1,h2⟩)
 have HF2:=aA0 (fun W (hW:Below X.heap.size X W)=>(aG1 F p (ks.take (ks.length- 1)) _ _ ka kc _ W ((HAW.out W hW).take _) (HPW.out W hW) hz).mono fun e w' h=>h.strs)
 have HLS:Hid (aCE (aBM F p ks)=0→(∀t∈ aAM F p (ks.take (ks.length- 1)),t∈ aAM F p ks)∧aAM F p ks≠[]∧0<ks.length∧((aAM F p ks).map ByteArray.toList).Nodup):=aA0 fun h=>aK1 HF.out h
 have HL0:Hid (aCE (aBM F p ks)≠0→aAM F p ks=[]):=aA0 fun h=>by unfold aAM;rw[if_neg h]
 have hlt2:(ks.take (ks.length- 1)).length=ks.length- 1:=by rw[List.length_take];omega
 rw[hlt2] at HF2
 generalize aAM F p (ks.take (ks.length- 1))=L2 at*
 generalize aAM F p ks=L at*
 generalize aCE (aBM F p ks)=cd at*
 have HKC:=aA0 hkc
 have HK72:=aA0 HO.out.1
 have HKA:Hid (0<ks.length→∃b o,ka=some ⟨b,o,none⟩):=aA0 fun h=>by
  obtain⟨-,C,hA,-⟩:=HO.out
  obtain⟨b,o,e,-⟩:=hA h
  exact⟨b,o,e⟩
 clear hz hkc hlt2 nX HX HPV HO HF HS HFn HA1 HKW HAW HPW HL HZX
 obtain⟨c0,c1⟩:=HC.out X (Below.refl _ _)
 go_wp2_with fail
 refine(HFI.out X (Below.refl _ _)).mono ?_
 rintro e w2 ⟨fa,fc,rfl,hS2,hcap2,b2⟩
 have HS2:=aA0 hS2
 have HCP:=aA0 hcap2
 clear hS2 hcap2
 have bX2:Below X.heap.size X w2.drew:=b2.drew
 have HB2:=aA0 b2
 obtain⟨d0,d1⟩:=HC.out w2.drew bX2
 clear c0 c1 b2
 go_wp2_with fail
 go_region_held3 (fun w'=>w'.cell? ⟨w1.heap.size,0,none⟩=some (.string p.name)∧w'.cell? ⟨w1.heap.size,1,none⟩=some (.slice ta l tc)) (go_keep)
  (first
   |(
    go_at_call 31
    refine(HFS.out w2.drew bX2).mono ?_
    rintro e w3 ⟨fa3,fc3,rfl,hS3,-,b3⟩
    have HS3:=aA0 hS3
    have HQ3:=aA0 ((Below.refl w2.heap.size w2).drew.trans b3)
    have b3:=bX2.trans (b3.mono bX2.size)
    obtain⟨d0,d1⟩:=HC.out w3 b3
    clear hS3)
   |(
    go_at_call 21
    refine(aOH L fa fa3 fc fc3 w3 _ _ (HS2.out.mono fun b hb=>HQ3.out.block b hb.2) HS3.out).mono ?_
    rintro e w4 ⟨rfl,m4,hm4⟩
    have b4:Below X.heap.size X w4:=by rw[hm4];exact aAL b3 _
    have HQ4:Hid (Below w2.heap.size w2 w4):=aA0 (by rw[hm4];exact aAL HQ3.out _)
    obtain⟨d0,d1⟩:=HC.out w4 b4
    clear hm4)
   |(
    go_at_call 32
    refine(HCI.out w4 b4).mono ?_
    rintro e w5 ⟨ca,cn,cc',rfl,b5⟩
    have HQ5:=aA0 (HQ4.out.trans (b5.mono HQ4.out.size))
    have b5:=b4.trans (b5.mono b4.size)
    obtain⟨d0,d1⟩:=HC.out w5 b5
    have hfld:=aDM (.slice ca cn cc') (.int .i64 cd))
   |(
    go_at_call 33
    refine(HCS.out w5 b5).mono ?_
    rintro e w6 ⟨ca',cn',cc'',rfl,b6⟩
    have HQ6:=aA0 (HQ5.out.trans (b6.mono HQ5.out.size))
    have b6:=b5.trans (b6.mono b5.size)
    obtain⟨d0,d1⟩:=HC.out w6 b6
    have hfld':=aDM (.slice ca' cn' cc'') (.int .i64 cd)))
 go_wp2_with fail
 refine(HCS.out w6 b6).mono ?_
 rintro e w7 ⟨ca7,cn7,cc7,rfl,b7⟩
 have HQ7:=aA0 (HQ6.out.trans (b7.mono HQ6.out.size))
 have b7:=b6.trans (b7.mono b6.size)
 have hfld7:=aDM (.slice ca7 cn7 cc7) (.int .i64 cd)
 have HBW:Hid (∀W,Below w7.heap.size w7 W→Below w.heap.size w W∧Below X.heap.size X W):=aA0 fun W hW=>⟨HB1.out.trans ((b7.trans (hW.mono b7.size)).mono HB1.out.size),b7.trans (hW.mono b7.size)⟩
 have HSW:Hid (∀W,Below w7.heap.size w7 W→Strs W (fun b=>X.heap.size≤b∧b<w2.heap.size) L fa):=aA0 fun W hW=>HS2.out.mono fun b hb=>(HQ7.out.trans (hW.mono HQ7.out.size)).block b hb.2
 clear HFI HFS HCI HCS HS2 HS3 HQ3 HQ4 HQ5 HQ6 HQ7 hfld hfld' b3 b4 b5 b6 bX2 HB2
 by_cases hcd:cd=0
 case neg=>
  have hL:=HL0.out hcd
  subst hL
  go_wp2_with fail
  go_ret
  exact⟨rfl,(HBW.out w7 (Below.refl _ _)).1⟩
 subst hcd
 obtain⟨hsub,hLne,hkp,hnd⟩:=HLS.out rfl
 have HSUB:=aA0 hsub
 have hLp:0<L.length:=List.length_pos_iff.2 hLne
 obtain⟨fb,fo,rfl,-,-⟩:=(HSW.out w7 (Below.refl _ _)).1 hLne
 have HCL:Hid (∀W,Below w7.heap.size w7 W→∀i,i<L.length→W.cell? ⟨fb,fo+i,none⟩=some (.string (nth L i))):=aA0 fun W hW i hi=>by
  obtain⟨b,off,e,-,hc⟩:=(HSW.out W hW).1 hLne
  simp only[Option.some.injEq,Addr.mk.injEq,and_true] at e
  obtain⟨rfl,rfl⟩:=e
  exact hc i hi
 have HHP:Hid (∀W,Below w7.heap.size w7 W→∀i,i<L.length→Calls Tryz.prog 28 #[.slice (some ⟨fb,fo,none⟩) i fc,.string (nth L i)] W fun e w'=>e=.returned (.bool false)∧Below W.heap.size W w'):=aA0 fun W hW i hi=>by
  have hl:(L.take i).length=i:=by rw[List.length_take];omega
  have hS:=(HSW.out W hW)
  have hS2:Strs W (fun b=>X.heap.size≤b∧b<w2.heap.size) (L.take i) (some ⟨fb,fo,none⟩):=⟨fun hne=>by
   obtain⟨b,off,e,hb,hc⟩:=hS.1 hLne
   refine⟨b,off,e,hb,fun j hj=>?_⟩
   rw[hl] at hj
   rw[hc j (by omega)]
   simp[nth,List.getD_eq_getElem?_getD,List.getElem?_take,hj],fun j=>by
   have:=hS.2.1
   by_cases hj:j<i
   ·have e:nth (L.take i) j=nth L j:=by simp[nth,List.getD_eq_getElem?_getD,List.getElem?_take,hj]
    rw[e];exact this j
   ·simp[nth,List.getD_eq_getElem?_getD,List.getElem?_take,hj,maxLen],by rw[hl];have:=hS.2.2;omega⟩
  have h:=aNF (L.take i) (nth L i) (some ⟨fb,fo,none⟩) fc W _ hS2
  rw[hl] at h
  have hf:hasB (L.take i) (nth L i)=false:=by
   apply Bool.eq_false_iff.2
   intro e
   rw[aP3] at e
   obtain⟨t,ht,e2⟩:=List.mem_map.1 e
   obtain⟨j,hj,rfl⟩:=List.mem_iff_getElem.1 ht
   rw[hl] at hj
   have hp:=List.pairwise_iff_getElem.1 hnd j i (by simp;omega) (by simp;omega) hj
   apply hp
   simp only[List.getElem_map]
   have e3:nth L i=L[i]:=by simp[nth,List.getD_eq_getElem?_getD,hi]
   rw[←e3,←e2,List.getElem_take]
  rw[hf] at h
  exact h
 have HHL:Hid (∀W,Below w7.heap.size w7 W→∀s∈ L2,Calls Tryz.prog 28 #[.slice (some ⟨fb,fo,none⟩) L.length fc,.string s] W fun e w'=>e=.returned (.bool true)∧Below W.heap.size W w'):=aA0 fun W hW s hs=>by
  have h:=aNF L s (some ⟨fb,fo,none⟩) fc W _ (HSW.out W hW)
  have hf:hasB L s=true:=aP3.2 (List.mem_map.2 ⟨s,HSUB.out s hs,rfl⟩)
  rw[hf] at h
  exact h
 obtain⟨kb,ko,rfl⟩:=HKA.out hkp
 have hnm:L.length≤9223372036854775807:=by have:=(HSW.out w7 (Below.refl _ _)).2.2;unfold maxLen at this;omega
 have hkc1:ks.length- 1≤kc:=by have:=HKC.out;omega
 have hcp:=HCP.out
 obtain⟨nL,hnL⟩:∃x,x=L.length:=⟨_,rfl⟩
 obtain⟨k1,hk1⟩:∃x,x=ks.length- 1:=⟨_,rfl⟩
 obtain⟨nk,hnk⟩:∃x,x=ks.length:=⟨_,rfl⟩
 have hki:(nk:Int)- 1=(k1:Int):=by omega
 have hk72:=HK72.out
 rw[←hnk] at hk72
 have hwr:IntKind.i64.wrap ((nk:Int)- 1)=(k1:Int):=by rw[IntWalk.i64_in _ (by omega)];omega
 have hwj:IntKind.i64.wrap (k1:Int)=(k1:Int):=IntWalk.i64_in _ (by omega)
 have hk1n:k1≤nk:=by omega
 have hkci:(k1:Int)≤(kc:Int):=by omega
 have hkz:¬kc=0:=by have:=HKC.out;omega
 have hkz2:(kc=0)=False:=by simp[hkz]
 have hkz3:¬(kc:Int)=0:=by omega
 have hkc2:¬(kc:Int)<(k1:Int):=by omega
 have hk0i:¬(k1:Int)<0:=by omega
 have hk0j:(0:Int)≤(k1:Int):=by omega
 rw[←hnL] at HCL HHP HHL hcp hLp hnm ⊢
 rw[←hk1] at HF2 hkc1
 rw[←hnk] at hkp ⊢
 clear hsub hnd hLne HSW HSUB HL0 HLS hk1 hnL hnk
 go_wp2_with fail
 go_loopw [6] (fun i wr=>∃k:Nat,k≤nL∧i=.int .i64 k∧Below w7.heap.size w7 wr) (fun i _=>nL- (intOf i).toNat)
 case atStart=>exact⟨0,Nat.zero_le _,rfl,Below.refl _ _⟩
 case round=>
 obtain⟨k,hk,rfl,hbk⟩:=hrel
 obtain⟨wX,rfl⟩:∃x,x=wr:=⟨wr,rfl⟩
 by_cases hlt:k<nL
 ·have hlti:(k:Int)<(nL:Int):=by omega
  have ck:=HCL.out wX.drew hbk.drew k hlt
  have ck0:=HCL.out wX hbk k hlt
  have hH:=aA0 (HHP.out wX.drew hbk.drew k hlt)
  generalize nth L k=t at*
  go_wp2_with fail
  go_region_with (
   go_at_call 28
   refine hH.out.mono ?_
   rintro e wY ⟨rfl,bY⟩)
  all_goals
   go_wp2_with fail
   go_roundw
   case rel=>exact⟨k+1,by omega,by go_num,hbk.drew.trans (bY.mono hbk.drew.size)⟩
   case measure=>simp[intOf];omega
 have hlti:¬(k:Int)<(nL:Int):=by omega
 obtain⟨d0,d1⟩:=HC.out wX.drew (HBW.out wX.drew hbk.drew).2
 obtain⟨d0',d1'⟩:=HC.out wX (HBW.out wX hbk).2
 have hFD:=aA0 (HF2.out wX.drew (HBW.out wX.drew hbk.drew).2)
 have HBK:=aA0 hbk.drew
 go_wp2_with fail
 go_region_held3 (fun w'=>w'.cell? ⟨w1.heap.size,0,none⟩=some (.string p.name)∧w'.cell? ⟨w1.heap.size,1,none⟩=some (.slice ta l tc)) (go_keep)
  (first
   |(
    go_at_call 30
    refine hFD.out.mono ?_
    rintro e w8 ⟨ga,gc,rfl,hS8,-,b8⟩
    have b8':=HBK.out.trans (b8.mono HBK.out.size)
    obtain⟨d0,d1⟩:=HC.out w8 (HBW.out w8 b8').2))
 have HB8:=aA0 b8'
 have HS8:=aA0 (hS8.sub (Q:=fun b=>b<w8.heap.size) fun b hb=>hb.2)
 have hn8:L2.length≤9223372036854775807:=by have:=hS8.2.2;unfold maxLen at this;omega
 have HC8:Hid (∀W,Below w8.heap.size w8 W→∀i,i<L2.length→∃b off,ga=some ⟨b,off,none⟩∧W.cell? ⟨b,off+i,none⟩=some (.string (nth L2 i))):=aA0 fun W hW i hi=>by
  obtain⟨b,off,e,hb,hc⟩:=HS8.out.1 (by intro e;rw[e] at hi;simp at hi)
  exact⟨b,off,e,(hW.cell (p:=⟨b,off+i,none⟩) hb).trans (hc i hi)⟩
 have HM8:Hid (∀i,i<L2.length→nth L2 i∈ L2):=aA0 fun i hi=>by simp[nth,List.getD_eq_getElem?_getD,hi]
 obtain⟨n2,hn2⟩:∃x,x=L2.length:=⟨_,rfl⟩
 rw[←hn2] at HC8 HM8 hn8 ⊢
 clear hn2 hS8 b8 b8' HS8 hFD
 go_wp2_with fail
 go_loopw [8] (fun i wr=>∃k:Nat,k≤n2∧i=.int .i64 k∧Below w8.heap.size w8 wr) (fun i _=>n2- (intOf i).toNat)
 case atStart=>exact⟨0,Nat.zero_le _,rfl,Below.refl _ _⟩
 case round=>
 obtain⟨j,hj,rfl,hbj⟩:=hrel
 obtain⟨wY,rfl⟩:∃x,x=wr:=⟨wr,rfl⟩
 have hb7:=HB8.out.trans (hbj.mono HB8.out.size)
 by_cases hlt:j<n2
 ·have hjti:(j:Int)<(n2:Int):=by omega
  obtain⟨gb,go,rfl,cj⟩:=HC8.out wY hbj j hlt
  have hH:=aA0 (HHL.out wY hb7 (nth L2 j) (HM8.out j hlt))
  generalize nth L2 j=t at*
  go_wp2_with fail
  refine hH.out.mono ?_
  rintro e wZ ⟨rfl,bZ⟩
  go_wp2_with fail
  go_roundw
  case rel=>exact⟨j+1,by omega,by go_num,hbj.trans (bZ.mono hbj.size)⟩
  case measure=>simp[intOf];omega
 have hjti:¬(j:Int)<(n2:Int):=by omega
 have hLpi:(0:Int)<(nL:Int):=by omega
 have HFIN:=aA0 (HBW.out wY hb7).1
 go_wp2_with fail
 go_ret
 exact⟨rfl,HFIN.out⟩
end Go.Proofs.YtokmgbidmnanpaaGreatDoor
