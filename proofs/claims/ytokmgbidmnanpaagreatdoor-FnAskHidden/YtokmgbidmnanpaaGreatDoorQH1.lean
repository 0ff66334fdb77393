import Derived.Deep.RegionHeld3
import Derived.Laws.OwnMore
import Derived.Deep.QuietTactic
import Derived.BigQuiet
import Derived.Deep.DeepCutAuto
import Derived.Test.YtokmgbidmnanpaaGreatDoorQ1
import Derived.Test.YtokmgbidmnanpaaGreatDoorQ2
import Derived.Test.YtokmgbidmnanpaaGreatDoorQ3
import Derived.Test.YtokmgbidmnanpaaGreatDoorQ4
import Derived.Test.YtokmgbidmnanpaaGreatDoorQ5
import Derived.Test.YtokmgbidmnanpaaGreatDoorQ6
import Derived.Test.YtokmgbidmnanpaaGreatDoorQ7
import Derived.Test.YtokmgbidmnanpaaGreatDoorQ8
import Derived.Test.YtokmgbidmnanpaaGreatDoorQ9
import Derived.Test.YtokmgbidmnanpaaGreatDoorQ10
import Derived.Test.YtokmgbidmnanpaaGreatDoorQ11
import Derived.Test.YtokmgbidmnanpaaGreatDoorQ12
import Derived.Test.YtokmgbidmnanpaaGreatDoorQ13
import Derived.Test.YtokmgbidmnanpaaGreatDoorQ14
import Derived.Test.YtokmgbidmnanpaaGreatDoorQ15
import Derived.Test.YtokmgbidmnanpaaGreatDoorQ16
import Derived.Test.YtokmgbidmnanpaaGreatDoorQ17
import Derived.Test.YtokmgbidmnanpaaGreatDoorQ18
import Derived.Test.YtokmgbidmnanpaaGreatDoorQ19
import Derived.Test.YtokmgbidmnanpaaGreatDoorQ20
import Derived.Test.YtokmgbidmnanpaaGreatDoorQ21
import Derived.Test.YtokmgbidmnanpaaGreatDoorQ22
import Derived.Test.YtokmgbidmnanpaaGreatDoorQ23
import Derived.Test.YtokmgbidmnanpaaGreatDoorQ24
import Derived.Test.YtokmgbidmnanpaaGreatDoorQ25
import Derived.Test.YtokmgbidmnanpaaGreatDoorQ26
import Derived.Test.YtokmgbidmnanpaaGreatDoorQ27
import Derived.Test.YtokmgbidmnanpaaGreatDoorQ28
import Derived.Test.YtokmgbidmnanpaaGreatDoorQ29
import Derived.Test.YtokmgbidmnanpaaGreatDoorQ30
import Derived.Test.YtokmgbidmnanpaaGreatDoorQ31
import Derived.Test.YtokmgbidmnanpaaGreatDoorQ32
import Derived.Test.YtokmgbidmnanpaaGreatDoorQ33
import Derived.Test.YtokmgbidmnanpaaGreatDoorQ34
import Derived.Test.YtokmgbidmnanpaaGreatDoorQ35
import Derived.Test.YtokmgbidmnanpaaGreatDoorQ36
import Derived.Test.YtokmgbidmnanpaaGreatDoorQ37
import Derived.Test.YtokmgbidmnanpaaGreatDoorQ38
import Derived.Test.YtokmgbidmnanpaaGreatDoorQ39
import Derived.Test.YtokmgbidmnanpaaGreatDoorQ40
import Derived.Test.YtokmgbidmnanpaaGreatDoorQ41
import Derived.Test.YtokmgbidmnanpaaGreatDoorQ42
import Derived.Test.YtokmgbidmnanpaaGreatDoorQ43
import Derived.Test.YtokmgbidmnanpaaGreatDoorQ44
import Derived.Test.YtokmgbidmnanpaaGreatDoorQ45
import Derived.Test.YtokmgbidmnanpaaGreatDoorQ46
import Derived.Test.YtokmgbidmnanpaaGreatDoorQ47
import Derived.Test.YtokmgbidmnanpaaGreatDoorQ48
import Derived.Test.YtokmgbidmnanpaaGreatDoorQ50
import Derived.Test.YtokmgbidmnanpaaGreatDoorQ51
import Derived.Test.YtokmgbidmnanpaaGreatDoorQ52
set_option linter.unusedSimpArgs false
set_option linter.unusedVariables false
namespace Go.Proofs.YtokmgbidmnanpaaGreatDoor
open Go.RowKit Go.Shelf Go.Maps
theorem aGI(w1:World)(rb cb:Nat):∀w2 σ c q pb pc ps n,PSt w1 rb cb n w2 σ c q pb pc ps→n≤3→c≤56→Calls Tryz.prog 54 #[.slice (some ⟨pb,0,none⟩) n pc] w2 fun e w'=>∃(p:Pt) (v:Value),e=.returned v∧PRep w' (fun b=>w1.heap.size≤b∧b<w'.heap.size) p v∧szP p≤1048576∧aLE p∧0<p.types.length∧Below w2.heap.size w2 w':=fun w2 σ c q pb pc ps n hP h3 hc=>by
 obtain⟨qs,hql,hqs,hqz⟩:=hP.list h3 hc
 subst hql
 exact(aQK qs w2 w1.heap.size w2.heap.size (some ⟨pb,0,none⟩) pc hqs (Nat.le_refl _) (fun i hi=>Nat.le_trans (hqz i hi) (by omega))).mono fun e w' h=>h.low hP.only.size (Nat.le_refl _)
theorem aO9{F L m:Nat}{ks:List Se}{a:Option Addr}{w:World}(hF:F≤1000000000)(hTr:Tr m F ks)(hSA:SA w L ks a)(hT:Tab w.heap.size w):aJO F ks (fun b=>L≤b∧b<w.heap.size∧aBK w b) w.heap.size a w:=
 ⟨hTr.fit,hTr.small F,hF,hSA,fun b hb=>hb.2,Nat.le_refl _,hT⟩
end Go.Proofs.YtokmgbidmnanpaaGreatDoor
namespace Go.Proofs.YtokmgbidmnanpaaGreatDoor
open Go.RowKit Go.Shelf Go.Maps
attribute [local go_sem] Oper.semAt_some
theorem aHX.below{w w':World}{cb n:Nat}{v:Value}(h:aHX w cb v n)(hb:Below w.heap.size w w'):aHX w' cb v n:=by
 obtain⟨a,c,off,h1,h2,h3,h4,h5,h6,h7⟩:=h
 exact⟨a,c,off,h1,h2,h3,by have:=hb.size;omega,h5,h6,fun i hi=>by obtain⟨x,hx,hc⟩:=h7 i hi;exact⟨x,hx,(hb.cell (p:=⟨cb,off+i,none⟩) h4).trans hc⟩⟩
theorem aLT(FW:World)(tmps:Array Value)(N:Nat)(v0 v1 s1:Value)(h2:tmps.getD 2 undef=.pointer (some ⟨N,0,none⟩))(h3:tmps.getD 3 undef=s1)
  (d0:FW.cell? ⟨N,0,none⟩=some v0) (d1:FW.cell? ⟨N,1,none⟩=some v1):
  (results Tryz.f34 tmps).run Tryz.prog FW=.ok (.tuple #[.agg #[v0,v1],s1]) FW:=by
 simp only[Array.getD_eq_getD_getElem?] at h2 h3
 simp[results,Tryz.results34,go_sem,h2,h3,d0,d1]
def aP2(w:World)(e:Ending)(w':World):Prop:=∃(p:Pt) (ta:Option Addr) (tc:Nat) (ks:List Se) (a:Option Addr) (c:Nat),e=.returned (.tuple #[.agg #[.string p.name,.slice ta p.types.length tc],.slice a ks.length c])∧PRep w' (fun b=>w.heap.size≤b∧b<w'.heap.size) p (.agg #[.string p.name,.slice ta p.types.length tc])∧szP p≤1048576∧aLE p∧0<p.types.length∧SA w' w.heap.size ks a∧(Tr 4 6 ks∧ks.length≤c)∧Below w.heap.size w w'
set_option maxRecDepth 20000 in
set_option maxHeartbeats 3200000 in
theorem aI9(w:World)(cb n:Nat)(v:Value)(h:aHX w cb v n)(hn:n≤1048576):
  Calls Tryz.prog 34 #[v] w (aP2 w):=by
 have HOP:=aA0 (aPY (w.alloc (.cells #[.string ⟨#[]⟩,.slice none 0 0] 43)) cb n v (h.below (aA2 w _)) hn)
 clear h
 go_enter Tryz.func34,Tryz.ntmps34
 go_upto_region 2 with(
  go_at_call 52
  refine HOP.out.mono ?_
  rintro e w1 ⟨rb,rfl,hrb,hR,hb1⟩)
 have hrb':w.heap.size+1≤rb:=by simpa using hrb
 have bx1:=(hb1.block w.heap.size (by simp)).trans (aA3 (w:=w) #[.string ⟨#[]⟩,.slice none 0 0] 43 rfl)
 have b1:Below w.heap.size w w1:=(aA2 w _).trans (hb1.mono (by simp))
 have hsz1:w.heap.size+1≤w1.heap.size:=by simpa using hb1.size
 have HPT:=aA0 (aI1 w1 rb cb 0 hR (by omega))
 have HAL:=aA0 (aGI w1 rb cb)
 clear HOP hb1 hrb hR
 go_upto_region 3 with(
  first
   |(
    go_at_call 55
    refine HPT.out.mono ?_
    rintro e w2 ⟨m,σ,c,q,pb,pc,ps,rfl,hm1,hm3,hc,hq,hP⟩
    have HP:=aA0 hP
    have HA:=aA0 (HAL.out w2 σ c q pb pc ps m hP hm3 hc)
    clear hP)
   |(
    go_at_call 54
    refine HA.out.mono ?_
    rintro e w3 ⟨p,v3,rfl,hPR,hz,hF,h0,b3⟩
    have HPR:=aA0 hPR
    obtain⟨ta,tc,rfl,-,-,-⟩:=hPR))
 obtain⟨l,HL⟩:∃l,Hid (l=p.types.length):=⟨_,rfl⟩
 rw[←HL.out] at HPR ⊢
 have bX:=aA2 w3 (.cells #[.string p.name,.slice ta l tc] 43)
 have nX:=aA3 (w:=w3) (N:=w3.heap.size) #[.string p.name,.slice ta l tc] 43 rfl
 have zX:(w3.alloc (.cells #[.string p.name,.slice ta l tc] 43)).heap.size=w3.heap.size+1:=by simp
 have HR3:=aA0 (HP.out.rd.only (Only.of_below (fun _=>False) b3) id id)
 have HO3:=aA0 (HP.out.only.trans (Only.of_below (·=rb) b3) fun _ _ q=>q)
 have hr1:rb<w1.heap.size:=HP.out.rlt
 have hw13:w1.heap.size≤w3.heap.size:=HO3.out.size
 generalize w3.alloc (.cells #[.string p.name,.slice ta l tc] 43)=X at*
 have HRX:=aA0 (HR3.out.only (Only.of_below (fun _=>False) bX) id id)
 have HOX:=aA0 (HO3.out.trans (Only.of_below (·=rb) bX) fun _ _ q=>q)
 have HPX:Hid (∀W,Only (·=rb) X W→PRep W (fun b=>w1.heap.size≤b∧b<w3.heap.size) p (.agg #[.string p.name,.slice ta l tc])):=aA0 fun W hW=>HPR.out.mono fun b hb=>(hW.block b (by omega) (by omega)).trans (bX.block b hb.2)
 have HSD:Hid (∀W,Only (·=rb) X W→W.cell? ⟨w3.heap.size,0,none⟩=some (.string p.name)∧W.cell? ⟨w3.heap.size,1,none⟩=some (.slice ta l tc)):=aA0 fun W hW=>by
  have h:=(hW.block w3.heap.size (by omega) (by omega)).trans nX
  exact⟨(aA1 h 0 (by simp)).1,(aA1 h 1 (by simp)).1⟩
 have HRB:Hid (∀W,Only (·=rb) X W→W.heap[w.heap.size]?=some (.cells #[.string ⟨#[]⟩,.slice none 0 0] 43 (0,0))):=aA0 fun W hW=>(hW.block w.heap.size (by omega) (by omega)).trans ((HOX.out.block w.heap.size (by omega) (by omega)).trans bx1)
 have HST:Hid (∀W,Only (·=rb) X W→((W.setCell ⟨w.heap.size,0,none⟩ (.string p.name)).setCell ⟨w.heap.size,1,none⟩ (.slice ta l tc)).cell? ⟨w3.heap.size,0,none⟩=some (.string p.name)∧((W.setCell ⟨w.heap.size,0,none⟩ (.string p.name)).setCell ⟨w.heap.size,1,none⟩ (.slice ta l tc)).cell? ⟨w3.heap.size,1,none⟩=some (.slice ta l tc)):=aA0 fun W hW=>by
  have hb:((W.setCell ⟨w.heap.size,0,none⟩ (.string p.name)).setCell ⟨w.heap.size,1,none⟩ (.slice ta l tc)).heap[w3.heap.size]?=W.heap[w3.heap.size]?:=by
   rw[Below.heap_setCell _ _ _ _ (by show w3.heap.size≠w.heap.size;omega),Below.heap_setCell _ _ _ _ (by show w3.heap.size≠w.heap.size;omega)]
  have h0:=HSD.out W hW
  exact⟨(World.cell?_of_block (a:=⟨w3.heap.size,0,none⟩) hb).trans h0.1,(World.cell?_of_block (a:=⟨w3.heap.size,1,none⟩) hb).trans h0.2⟩
 have HEND:Hid (∀W,Only (·=rb) X W→∀(ks:List Se) (a:Option Addr) (c:Nat),SA W X.heap.size ks a→Tr 4 6 ks∧ks.length≤c→aP2 w (.returned (.tuple #[.agg #[.string p.name,.slice ta l tc],.slice a ks.length c])) ((W.setCell ⟨w.heap.size,0,none⟩ (.string p.name)).setCell ⟨w.heap.size,1,none⟩ (.slice ta l tc))):=aA0 fun W hW ks a c hS hT=>by
  have hzW:=hW.size
  have hbl:∀b,b≠w.heap.size→((W.setCell ⟨w.heap.size,0,none⟩ (.string p.name)).setCell ⟨w.heap.size,1,none⟩ (.slice ta l tc)).heap[b]?=W.heap[b]?:=fun b hb=>(Below.heap_setCell _ _ _ _ hb).trans (Below.heap_setCell _ _ _ _ hb)
  have hsz:((W.setCell ⟨w.heap.size,0,none⟩ (.string p.name)).setCell ⟨w.heap.size,1,none⟩ (.slice ta l tc)).heap.size=W.heap.size:=by simp
  have hP3:=((HPX.out W hW).mono (w':=(W.setCell ⟨w.heap.size,0,none⟩ (.string p.name)).setCell ⟨w.heap.size,1,none⟩ (.slice ta l tc)) fun b hb=>hbl b (by omega)).sub (Q:=fun b=>w.heap.size≤b∧b<((W.setCell ⟨w.heap.size,0,none⟩ (.string p.name)).setCell ⟨w.heap.size,1,none⟩ (.slice ta l tc)).heap.size) fun b hb=>by rw[hsz];omega
  have hS3:=(hS.keep (W':=(W.setCell ⟨w.heap.size,0,none⟩ (.string p.name)).setCell ⟨w.heap.size,1,none⟩ (.slice ta l tc)) (fun b hb _=>hbl b (by omega)) (by omega)).low (L':=w.heap.size) (by omega)
  have bW:Below w.heap.size w W:=b1.trans ((HOX.out.trans hW fun _ _ q=>q).below (by omega) fun b hb e=>by omega)
  rw[HL.out] at hP3 hS3 ⊢
  exact⟨p,ta,tc,ks,a,c,rfl,hP3,hz,hF,h0,hS3,hT,(bW.setCell (p:=⟨w.heap.size,0,none⟩) (Nat.le_refl _) _).setCell (p:=⟨w.heap.size,1,none⟩) (Nat.le_refl _) _⟩
 have HPV:Hid (∀W,Only (·=rb) X W→PRep W (fun b=>b<W.heap.size∧b≠rb) p (.agg #[.string p.name,.slice ta l tc])):=aA0 fun W hW=>(HPX.out W hW).sub fun b hb=>by have:=hW.size;omega
 have HK:=aA0 (aKW X rb cb _ p (fun b=>b<X.heap.size∧b≠rb) _ HRX.out (by rw[pkN5];omega) (HPV.out X (Only.refl _ _)) (fun b hb=>hb) hF hz h0)
 clear HPT HAL HA bX nX b3 HR3 HO3 HPR HPV
 obtain⟨p0,p1⟩:=HSD.out X (Only.refl _ _)
 go_upto_region 4 with(
  go_at_call 53
  refine HK.out.mono ?_
  rintro e w4 ⟨ks,ka,kc,q4,rfl,hSA,r4,hq4,o4,hSO⟩)
 rw[pkN5] at hq4
 have HO4:=aA0 o4
 have HS4:=aA0 hSA
 have HT4:=aA0 hSO
 have HPK:=aA0 (aBA w4 rb cb q4 4 r4 (by omega) (by omega) (by omega))
 clear hSA r4 o4 hSO HK p0 p1
 go_upto_if 17 with(
  go_at_call 56
  refine HPK.out.mono ?_
  rintro e w5 ⟨x,rfl,hx,r5,o5,z5⟩)
 have HR5:=aA0 r5
 have HO5:=aA0 (HO4.out.trans o5 fun _ _ q=>q)
 have hz4:=HO4.out.size
 have HS5:=aA0 (HS4.out.keep (fun b hb hb2=>o5.block b hb2 (by omega)) o5.size)
 clear r5 o5 HPK hx HO4 HS4 z5
 by_cases hx0:x=0
 ·subst hx0
  go_upto_region 6 with fail
  refine wp_region_held_drew (S:=(fun w'=>w'.cell? ⟨w3.heap.size,0,none⟩=some (.string p.name)∧w'.cell? ⟨w3.heap.size,1,none⟩=some (.slice ta l tc))) (by kernel_rfl) (HSD.out _ (HO5.out.trans (Only.of_below (·=rb) (Below.refl _ _).drew) (fun _ _ q=>q))) (fun hHeld=>?_)
  have oX:Only (·=rb) X w5.drew:=(HO5.out.trans (Only.of_below (·=rb) (Below.refl _ _).drew) (fun _ _ q=>q))
  have rX:=HR5.out.only (Only.of_below (fun _=>False) (Below.refl w5.heap.size w5).drew) id id
  have sX:=HS5.out.below (Below.refl w5.heap.size w5).drew
  generalize w5.drew=wE0 at*
  have hrX:rb<wE0.heap.size:=rX.lt.1
  have hzX:X.heap.size≤wE0.heap.size:=oX.size
  refine tkH 0 hHeld ?_
  refine tkH 1 hHeld ?_
  refine tkH 2 hHeld ?_
  refine rdyH [3] ?_
  refine rcH (fun K hK=>?_) AllReadyH.nil
  go_simp
  refine(aIA 5 (by omega) ks wE0 rb cb (q4+1) (fun b=>b<wE0.heap.size∧b≠rb) ka kc rX (by omega) HT4.out (aAA.sub sX fun b hb=>⟨hb.2.1,by have:=hb.1;omega⟩) (fun b hb=>hb)).mono ?_
  rintro e wC ⟨ks',ka',kc',q7,rfl,hS7,r7,hq7,o7,hT7⟩
  have oX:=oX.trans o7 (fun _ _ q=>q)
  have hSX:=hS7.low hzX
  have hTX:=And.intro hT7 hq7.2
  refine hK.out _ _ (HSD.out _ oX) (fun hHeld=>?_)
  clear hK K
  try simp only[Act.put,List.setIfInBounds_toArray,List.set_cons_zero,List.set_cons_succ]
  refine rdyH [4] ?_
  refine rcH (fun K hK=>?_) AllReadyH.nil
  obtain⟨c0,z0⟩:=aA1 (HRB.out _ oX) 0 (by simp)
  obtain⟨c1,z1⟩:=aA1 (HRB.out _ oX) 1 (by simp)
  simp only[List.getElem_toArray,List.getElem_cons_zero,List.getElem_cons_succ] at c0 c1
  go_simp
  clear c0 c1 z0 z1
  refine hK.out _ _ (HST.out _ oX) (fun hHeld=>?_)
  clear hK K
  try simp only[Act.put,List.setIfInBounds_toArray,List.set_cons_zero,List.set_cons_succ]
  refine tkH 5 hHeld ?_
  refine wpAnyH_done (by kernel_rfl) ?_ _
  have HFIN:=HEND.out _ oX ks' ka' kc' hSX hTX
  have hdd:=aB3 (HRB.out _ oX) (.string p.name) (.slice ta l tc)
  go_wp2_with fail
  exact bodyPost_ret (aLT _ _ w.heap.size (.string p.name) (.slice ta l tc) _ rfl rfl hdd.1 hdd.2) rfl HFIN
 have hx0i:¬(x:Int)=0:=by omega
 by_cases hx1:x=1
 ·subst hx1
  go_upto_region 8 with fail
  refine wp_region_held_drew (S:=(fun w'=>w'.cell? ⟨w3.heap.size,0,none⟩=some (.string p.name)∧w'.cell? ⟨w3.heap.size,1,none⟩=some (.slice ta l tc))) (by kernel_rfl) (HSD.out _ (HO5.out.trans (Only.of_below (·=rb) (Below.refl _ _).drew) (fun _ _ q=>q))) (fun hHeld=>?_)
  have oX:Only (·=rb) X w5.drew:=(HO5.out.trans (Only.of_below (·=rb) (Below.refl _ _).drew) (fun _ _ q=>q))
  have rX:=HR5.out.only (Only.of_below (fun _=>False) (Below.refl w5.heap.size w5).drew) id id
  have sX:=HS5.out.below (Below.refl w5.heap.size w5).drew
  generalize w5.drew=wE0 at*
  have hrX:rb<wE0.heap.size:=rX.lt.1
  have hzX:X.heap.size≤wE0.heap.size:=oX.size
  refine tkH 0 hHeld ?_
  refine tkH 1 hHeld ?_
  refine tkH 2 hHeld ?_
  refine rdyH [3] ?_
  refine rcH (fun K hK=>?_) AllReadyH.nil
  go_simp
  refine(aI1 wE0 rb cb (q4+1) rX (by omega)).mono ?_
  rintro e wC ⟨m',σ',c',q',pb',pc',ps',rfl,hm1',hm3',hc',hq',hP'⟩
  have oX:=oX.trans hP'.only (fun _ _ q=>q)
  refine hK.out _ _ (HSD.out _ oX) (fun hHeld=>?_)
  clear hK K
  try simp only[Act.put,List.setIfInBounds_toArray,List.set_cons_zero,List.set_cons_succ]
  refine rdyH [4] ?_
  refine rcH (fun K hK=>?_) AllReadyH.nil
  go_simp
  refine(aGI wE0 rb cb wC σ' c' q' pb' pc' ps' m' hP' hm3' hc').mono ?_
  rintro e wD ⟨p',v',rfl,hPR',hz',hF',h0',bD⟩
  have oX:=oX.trans (Only.of_below (·=rb) bD) (fun _ _ q=>q)
  have rD:=hP'.rd.only (Only.of_below (fun _=>False) bD) id id
  refine hK.out _ _ (HSD.out _ oX) (fun hHeld=>?_)
  clear hK K
  try simp only[Act.put,List.setIfInBounds_toArray,List.set_cons_zero,List.set_cons_succ]
  refine rdyH [5] ?_
  refine rcH (fun K hK=>?_) AllReadyH.nil
  go_simp
  refine(aKW wD rb cb q' p' (fun b=>wE0.heap.size≤b∧b<wD.heap.size) v' rD (by rw[pkN5];omega) hPR' (fun b hb=>⟨hb.2,by omega⟩) hF' hz' h0').mono ?_
  rintro e wE ⟨ks',ka',kc',q7,rfl,hS7,r7,hq7,o7,hT7⟩
  have hSX:=hS7.low oX.size
  have oX:=oX.trans o7 (fun _ _ q=>q)
  have hTX:=And.intro (Tr.up (m:=3) (m':=4) (by omega) (show 5≤6 by omega) hT7) hq7.2
  refine hK.out _ _ (HSD.out _ oX) (fun hHeld=>?_)
  clear hK K
  try simp only[Act.put,List.setIfInBounds_toArray,List.set_cons_zero,List.set_cons_succ]
  refine rdyH [6] ?_
  refine rcH (fun K hK=>?_) AllReadyH.nil
  obtain⟨c0,z0⟩:=aA1 (HRB.out _ oX) 0 (by simp)
  obtain⟨c1,z1⟩:=aA1 (HRB.out _ oX) 1 (by simp)
  simp only[List.getElem_toArray,List.getElem_cons_zero,List.getElem_cons_succ] at c0 c1
  go_simp
  clear c0 c1 z0 z1
  refine hK.out _ _ (HST.out _ oX) (fun hHeld=>?_)
  clear hK K
  try simp only[Act.put,List.setIfInBounds_toArray,List.set_cons_zero,List.set_cons_succ]
  refine tkH 7 hHeld ?_
  refine wpAnyH_done (by kernel_rfl) ?_ _
  have HFIN:=HEND.out _ oX ks' ka' kc' hSX hTX
  have hdd:=aB3 (HRB.out _ oX) (.string p.name) (.slice ta l tc)
  go_wp2_with fail
  exact bodyPost_ret (aLT _ _ w.heap.size (.string p.name) (.slice ta l tc) _ rfl rfl hdd.1 hdd.2) rfl HFIN
 have hx1i:¬(x:Int)=1:=by omega
 obtain⟨p0,p1⟩:=HSD.out w5 HO5.out
 obtain⟨c0,z0⟩:=aA1 (HRB.out _ HO5.out) 0 (by simp)
 obtain⟨c1,z1⟩:=aA1 (HRB.out _ HO5.out) 1 (by simp)
 simp only[List.getElem_toArray,List.getElem_cons_zero,List.getElem_cons_succ] at c0 c1
 have HFIN:=aA0 (HEND.out w5 HO5.out ks ka kc HS5.out ⟨Tr.up (by omega) (by omega) HT4.out,hq4.2⟩)
 have hdd:=aB3 (HRB.out _ HO5.out) (.string p.name) (.slice ta l tc)
 go_wp2_with fail
 exact bodyPost_ret (aLT _ _ w.heap.size (.string p.name) (.slice ta l tc) _ rfl rfl hdd.1 hdd.2) rfl HFIN.out
end Go.Proofs.YtokmgbidmnanpaaGreatDoor
namespace Go.Proofs.YtokmgbidmnanpaaGreatDoor
open Go.RowKit
theorem aSG(l:List ByteArray)(t:ByteArray):l<+:addT l t:=by
 unfold addT
 split
 ·exact List.prefix_rfl
 ·exact List.prefix_append _ _
theorem aH8(ts:List ByteArray):∀l,l<+:aC1 l ts:=by
 induction ts with
 |nil=>intro l;exact List.prefix_rfl
 |cons t ts ih=>intro l;exact(aSG l t).trans (ih _)
theorem aQD{l:List ByteArray}(t:ByteArray)(h:(l.map ByteArray.toList).Nodup):((addT l t).map ByteArray.toList).Nodup:=by
 unfold addT
 split
 ·exact h
 ·next hn=>
  rw[List.map_append,List.nodup_append]
  refine⟨h,by simp,fun a ha b hb=>?_⟩
  simp only[List.map_cons,List.map_nil,List.mem_singleton] at hb
  subst hb
  intro e
  subst e
  apply hn
  unfold tmT
  rw[List.contains_eq_mem,decide_eq_true_eq]
  exact ha
theorem aMJ(ts:List ByteArray):∀l:List ByteArray,(l.map ByteArray.toList).Nodup→((aC1 l ts).map ByteArray.toList).Nodup:=by
 induction ts with
 |nil=>intro l h;exact h
 |cons t ts ih=>intro l h;exact ih _ (aQD t h)
theorem aTT(l:List ByteArray)(t:ByteArray):addT l t≠[]:=by
 unfold addT
 split
 ·next h=>
  intro e
  rw[e] at h
  simp[tmT] at h
 ·simp
theorem aEU(p:Pt):∀(f:Nat) (nm:ByteArray) (ks:List Se) (n:Nat) (out:List ByteArray),(out.map ByteArray.toList).Nodup→((aAD p f nm ks n out).map ByteArray.toList).Nodup
 |0,_,_,_,out,h=>by rw[aAD];exact h
 |f+1,_,_,0,out,h=>by rw[aAD];exact h
 |f+1,nm,ks,n+1,out,h=>by
  rw[aAD]
  exact aEU p f _ _ _ _ (aMJ _ _ (aEU p (f+1) nm ks n out h))
theorem aG3(p:Pt):∀(f:Nat) (nm:ByteArray) (ks:List Se) (n:Nat) (out:List ByteArray),out<+:aAD p f nm ks n out
 |0,_,_,_,out=>by rw[aAD];exact List.prefix_rfl
 |f+1,_,_,0,out=>by rw[aAD];exact List.prefix_rfl
 |f+1,nm,ks,n+1,out=>by
  rw[aAD]
  exact((aG3 p (f+1) nm ks n out).trans (aH8 _ _)).trans (aG3 p f _ _ _ _)
theorem aNC(p:Pt)(f:Nat)(nm:ByteArray)(ks:List Se)(n:Nat)(out:List ByteArray):aAD p (f+1) nm ks n out<+:aAD p (f+1) nm ks (n+1) out∧aAD p (f+1) nm ks (n+1) out≠[]:=by
 have e:aAD p (f+1) nm ks (n+1) out=aAD p f (fldF p nm (sth ks n).name).of (sth ks n).kids (sth ks n).kids.length (aC1 (aAD p (f+1) nm ks n out) (ofF nm (fldF p nm (sth ks n).name))):=by rw[aAD]
 rw[e]
 have h1:=aG3 p f (fldF p nm (sth ks n).name).of (sth ks n).kids (sth ks n).kids.length (aC1 (aAD p (f+1) nm ks n out) (ofF nm (fldF p nm (sth ks n).name)))
 refine⟨(aH8 _ _).trans h1,fun h0=>?_⟩
 rw[h0] at h1
 have h2:=List.prefix_nil.1 h1
 have h3:addT (aAD p (f+1) nm ks n out) (fldT nm (fldF p nm (sth ks n).name).name)<+:aC1 (aAD p (f+1) nm ks n out) (ofF nm (fldF p nm (sth ks n).name)):=aH8 _ _
 rw[h2] at h3
 exact aTT _ _ (List.prefix_nil.1 h3)
theorem aFO(ks:List Se){m i:Nat}(h:i<m):sth (ks.take m) i=sth ks i:=by simp[sth,List.getD_eq_getElem?_getD,List.getElem?_take,h]
theorem aHR(p:Pt)(f:Nat)(nm:ByteArray)(ks:List Se)(m:Nat)(out:List ByteArray):∀n,n≤m→aAD p (f+1) nm (ks.take m) n out=aAD p (f+1) nm ks n out
 |0,_=>by rw[aAD,aAD]
 |n+1,h=>by
  rw[aAD,aAD,aHR p f nm ks m out n (by omega),aFO ks (show n<m by omega)]
theorem aUE{f:Nat}{p:Pt}{ks:List Se}(h:aCE (aBM f p ks)=0):okP p=true∧aDH f ks=true:=by
 unfold aBM at h
 split at h
 ·assumption
 ·simp[aCE] at h
theorem aK1{f:Nat}{p:Pt}{ks:List Se}(hf:FitS f ks)(h:aCE (aBM f p ks)=0):(∀t∈ aAM f p (ks.take (ks.length- 1)),t∈ aAM f p ks)∧aAM f p ks≠[]∧0<ks.length∧((aAM f p ks).map ByteArray.toList).Nodup:=by
 have ho:=(aUE h).2
 have hpos:0<ks.length:=by
  unfold aDH askB at ho
  simp only[Bool.and_eq_true,Bool.not_eq_true'] at ho
  cases ks with
  |nil=>simp at ho
  |cons a l=>simp
 obtain⟨g,rfl⟩:∃g,f=g+1:=by
  cases f with
  |zero=>have e:ks=[]:=hf;rw[e] at hpos;simp at hpos
  |succ g=>exact⟨g,rfl⟩
 obtain⟨n,hn⟩:∃n,ks.length=n+1:=⟨ks.length- 1,by omega⟩
 have e:aAM (g+1) p ks=aAD p (g+1) qry ks (n+1) []:=by unfold aAM;rw[if_pos h,hn]
 have hs:=aNC p g qry ks n []
 rw[←e] at hs
 refine⟨fun t ht=>?_,hs.2,hpos,by rw[e];exact aEU p (g+1) qry ks (n+1) [] (by simp)⟩
 unfold aAM at ht
 split at ht
 ·have e2:(ks.take (ks.length- 1)).length=n:=by rw[List.length_take];omega
  rw[e2,aHR p g qry ks (ks.length- 1) [] n (by omega)] at ht
  exact hs.1.subset ht
 ·cases ht
end Go.Proofs.YtokmgbidmnanpaaGreatDoor
namespace Go.Proofs.YtokmgbidmnanpaaGreatDoor
open Go.RowKit
theorem askChk_none{f:Nat}{p:Pt}{ks:List Se}:aCE (aBM f p ks)=0↔okP p=true∧aDH f ks=true∧chkM p f [] qry ks ks.length=none:=by
 constructor
 ·intro h
  obtain⟨h1,h2⟩:=aUE h
  refine⟨h1,h2,?_⟩
  unfold aBM at h
  rw[if_pos ⟨h1,h2⟩] at h
  cases hc:chkM p f [] qry ks ks.length with
  |none=>rfl
  |some x=>rw[hc] at h;exact absurd h (aEN p f _ _ _ _ x hc)
 ·rintro⟨h1,h2,h3⟩
  unfold aBM
  rw[if_pos ⟨h1,h2⟩,h3]
  rfl
theorem chkM_each(p:Pt)(f:Nat)(ah:Way)(nm:ByteArray)(ks:List Se):∀n,chkM p (f+1) ah nm ks n=none→∀k,k<n→aBI p nm (sth ks k)=0
 |0,_,k,hk=>by omega
 |n+1,h,k,hk=>by
  rw[chkM] at h
  cases h1:chkM p (f+1) ah nm ks n with
  |some y=>rw[h1] at h;simp at h
  |none=>
   rw[h1] at h
   simp only at h
   by_cases h2:aBI p nm (sth ks n)=0
   ·by_cases e:k=n
    ·rw[e];exact h2
    ·exact chkM_each p f ah nm ks n h1 k (by omega)
   ·rw[if_pos h2] at h;cases h
def hideF(n:ByteArray)(fs:List F):List F:=fs.map fun g=>if g.name.toList=n.toList then⟨g.name,g.of,g.list,g.must,g.far,true,g.shared,g.needs⟩ else g
def hideP(p:Pt)(n:ByteArray):Pt:=⟨p.name,p.types.set 0 ⟨(tth p.types 0).name,(tth p.types 0).key,hideF n (tth p.types 0).fields⟩⟩
theorem hideF_at(n:ByteArray)(fs:List F)(i:Nat)(hi:i<fs.length):(fth (hideF n fs) i).name=(fth fs i).name∧((fth fs i).name.toList=n.toList→(fth (hideF n fs) i).hidden=true):=by
 have e:fth (hideF n fs) i=if(fth fs i).name.toList=n.toList then⟨(fth fs i).name,(fth fs i).of,(fth fs i).list,(fth fs i).must,(fth fs i).far,true,(fth fs i).shared,(fth fs i).needs⟩ else fth fs i:=by
  unfold hideF fth
  rw[List.getD_eq_getElem?_getD,List.getD_eq_getElem?_getD,List.getElem?_map,List.getElem?_eq_getElem hi]
  rfl
 rw[e]
 split
 ·exact⟨rfl,fun _=>rfl⟩
 ·next h=>exact⟨rfl,fun h2=>absurd h2 h⟩
theorem root_first{p:Pt}(h:okP p=true):0<p.types.length∧(tth p.types 0).name=qry:=by
 unfold okP at h
 simp only[Bool.and_eq_true] at h
 have hr:=h.1.1.2
 unfold aB4 at hr
 simp only[Bool.and_eq_true,decide_eq_true_eq] at hr
 refine⟨hr.1.1,aUQ ?_⟩
 have h2:=hr.1.2
 unfold isT at h2
 rw[beq_iff_eq] at h2
 rw[h2,ByteArray.toList_eq]
 rfl
theorem hidden_refused{f:Nat}{p:Pt}{ks:List Se}(hf:FitS f ks)(h:aCE (aBM f p ks)=0)(k:Nat)(hk:k<ks.length):aCE (aBM f (hideP p (sth ks k).name) ks)≠0:=by
 intro hx
 obtain⟨h1,-,-⟩:=askChk_none.1 h
 obtain⟨x1,-,x3⟩:=askChk_none.1 hx
 obtain⟨hp,hq⟩:=root_first h1
 obtain⟨g,rfl⟩:∃g,f=g+1:=by
  cases f with
  |zero=>have e:ks=[]:=hf;rw[e] at hk;simp at hk
  |succ g=>exact⟨g,rfl⟩
 have h0:=chkM_each _ g [] qry ks _ x3 k hk
 have hkn:(fldB (hideP p (sth ks k).name) qry (sth ks k).name&&!(fldF (hideP p (sth ks k).name) qry (sth ks k).name).hidden)=true:=by
  cases hb:(fldB (hideP p (sth ks k).name) qry (sth ks k).name&&!(fldF (hideP p (sth ks k).name) qry (sth ks k).name).hidden)
  ·unfold aBI aDJ at h0
   rw[hb] at h0
   simp at h0
  ·rfl
 generalize (sth ks k).name=n at*
 rw[Bool.and_eq_true] at hkn
 obtain⟨hb,hh⟩:=hkn
 have hty:aAY (hideP p n) qry=⟨(tth p.types 0).name,(tth p.types 0).key,hideF n (tth p.types 0).fields⟩:=by
  have e0:tth (hideP p n).types 0=⟨(tth p.types 0).name,(tth p.types 0).key,hideF n (tth p.types 0).fields⟩:=aHL _ _ _ hp
  have hix:aCD (hideP p n) qry=((0:Nat):Int):=by
   unfold aCD
   refine aC0 (fun i hi=>by omega) ?_ (by show 0<(p.types.set 0 _).length;rw[List.length_set];exact hp)
   rw[e0]
   simp[hq]
  unfold aAY
  rw[hix,if_pos (by omega)]
  exact e0
 unfold fldB at hb
 have hb:=of_decide_eq_true hb
 unfold fldF aBU at hh
 rw[if_pos hb,hty] at hh
 rw[hty] at hb
 rcases aAB (fun i=>(fth (hideF n (tth p.types 0).fields) i).name.toList==n.toList) (hideF n (tth p.types 0).fields).length with⟨e,-⟩| ⟨i,e,hi,hpi,-⟩
 ·have e2:aAC ⟨(tth p.types 0).name,(tth p.types 0).key,hideF n (tth p.types 0).fields⟩ n=-1:=e
  rw[e2] at hb
  omega
 ·have e2:aAC ⟨(tth p.types 0).name,(tth p.types 0).key,hideF n (tth p.types 0).fields⟩ n=(i:Int):=e
  rw[e2] at hh
  simp only[Int.toNat_natCast] at hh
  have hl:(hideF n (tth p.types 0).fields).length=(tth p.types 0).fields.length:=by unfold hideF;rw[List.length_map]
  obtain⟨g1,g2⟩:=hideF_at n (tth p.types 0).fields i (by omega)
  rw[beq_iff_eq,g1] at hpi
  rw[g2 hpi] at hh
  simp at hh
end Go.Proofs.YtokmgbidmnanpaaGreatDoor
namespace Go.Proofs.YtokmgbidmnanpaaGreatDoor
open Go.RowKit Go.Maps
theorem flat3_lies{w:World}{P:Nat→Prop}{n:Nat}{a:Option Addr}{C:Nat→Nat→Value}(h:Arr w P 3 n a C):aGH w a n (aEE C n):=fun hn=>by
 obtain⟨b,off,e,-,hc⟩:=h hn
 refine⟨_,e,fun j u hu=>?_⟩
 have hj:j<n*3:=by
  have:=(List.getElem?_eq_some_iff.1 hu).1
  rw[aDV] at this
  exact this
 have h1:=hc (j / 3) (by omega) (j % 3) (Nat.mod_lt _ (by omega))
 rw[Addr.add_lit]
 have e2:off+j / 3*3+j % 3=off+j:=by omega
 rw[e2] at h1
 rw[h1]
 have e3:(aEE C n)[j]?=some (C (j / 3) (j % 3)):=by simp[aEE,hj]
 rw[e3] at hu
 exact hu
theorem flat3_one{w:World}{P:Nat→Prop}{ts:List T}{C:Nat→Nat→Value}(hr:∀i,i<ts.length→TRep w P (tth ts i) (.agg #[C i 0,C i 1,C i 2])):∀u∈ aEE C ts.length,u.oneCell'=true:=by
 intro u hu
 simp only[aEE,List.mem_map,List.mem_range] at hu
 obtain⟨j,hj,rfl⟩:=hu
 obtain⟨fa,fc,e,-⟩:=hr (j / 3) (by omega)
 simp only[Value.agg.injEq,Array.mk.injEq,List.cons.injEq,and_true] at e
 obtain⟨e0,e1,e2⟩:=e
 have hm:j % 3<3:=Nat.mod_lt _ (by omega)
 generalize j % 3=q at*
 rcases q with _| _| _| q
 ·simp only[e0];rfl
 ·simp only[Nat.zero_add,e1];rfl
 ·simp only[Nat.zero_add,Nat.reduceAdd,e2];rfl
 ·omega
theorem owns_cap{w:World}{base e sz g n cap:Nat}{xs:List Value}(h:w.ownsRow base e sz (.slice (some ⟨g,0,none⟩) n cap) n xs):n≤cap:=by
 rcases h.2 with⟨h',_⟩| ⟨g',cap',cur,h',_,_,hn,_⟩
 ·simp at h'
 ·simp only[Value.slice.injEq,true_and] at h'
  obtain⟨-,rfl⟩:=h'
  exact hn
theorem rowTs{w:World}{P:Nat→Prop}{base g cap:Nat}{ts:List T}{C:Nat→Nat→Value}
  (hr:∀i,i<ts.length→TRep w P (tth ts i) (.agg #[C i 0,C i 1,C i 2]))
  (h:w.ownsRow base 52 3 (.slice (some ⟨g,0,none⟩) ts.length cap) ts.length (aEE C ts.length)) (hl:ts.length≤1000000000):
  aEO w (fun b=>P b∨(base≤b∧b<w.heap.size)) ts (some ⟨g,0,none⟩):=
 ⟨by omega,C,fun _=>⟨g,0,rfl,Or.inr (h.lt g rfl),fun i hi j hj=>by
  rw[Nat.zero_add,h.cellAt (i*3+j) (by omega),aGS _ _ _ _ hi hj]⟩,fun i hi=>(hr i hi).sub fun b hb=>Or.inl hb⟩
theorem rowFs2{w:World}{P:Nat→Prop}{base g cap:Nat}{fs:List F}{C:Nat→Nat→Value}
  (hr:∀i,i<fs.length→FRep w P (fth fs i) (.agg #[C i 0,C i 1,C i 2,C i 3,C i 4,C i 5,C i 6,C i 7]))
  (h:w.ownsRow base 54 8 (.slice (some ⟨g,0,none⟩) fs.length cap) fs.length (aCP C fs.length)) (hl:fs.length≤1000000000):
  aC6 w (fun b=>P b∨(base≤b∧b<w.heap.size)) fs (some ⟨g,0,none⟩):=
 ⟨by omega,C,fun _=>⟨g,0,rfl,Or.inr (h.lt g rfl),fun i hi j hj=>by
  rw[Nat.zero_add,h.cellAt (i*8+j) (by omega),aLN _ _ _ _ hi hj]⟩,fun i hi=>(hr i hi).sub fun b hb=>Or.inl hb⟩
theorem flat8_of{L:List Value}{C:Nat→Nat→Value}{n:Nat}(hl:L.length=n*8)(h:∀i,i<n→∀j,j<8→L[i*8+j]?=some (C i j)):L=aCP C n:=by
 apply List.ext_getElem?
 intro x
 by_cases hx:x<n*8
 ·have e:x / 8*8+x % 8=x:=by omega
  have h1:=h (x / 8) (by omega) (x % 8) (Nat.mod_lt _ (by omega))
  have h2:=aLN C n (x / 8) (x % 8) (by omega) (Nat.mod_lt _ (by omega))
  rw[e] at h1 h2
  rw[h1,h2]
 ·rw[List.getElem?_eq_none (by omega),List.getElem?_eq_none (by rw[aDA];omega)]
def other(C:Nat→Nat→Value)(k:Nat)(v:Value):Nat→Nat→Value:=fun i j=>if i=k∧j=2 then v else C i j
theorem flat3_other(C:Nat→Nat→Value)(n k:Nat)(v:Value)(hk:k<n):(aEE C n).set (k*3+2) v=aEE (other C k v) n:=by
 apply aOY (by simp[aDV])
 intro i hi j hj
 have h0:=aGS C n i j hi hj
 unfold other
 by_cases e:i=k∧j=2
 ·obtain⟨rfl,rfl⟩:=e
  rw[if_pos ⟨rfl,rfl⟩,List.getElem?_set_self (by rw[aDV];omega)]
 ·rw[if_neg e,List.getElem?_set_ne (by omega),h0]
theorem otherT{w:World}{P Q:Nat→Prop}{base g cap k gF capF:Nat}{s:ByteArray}{ts:List T}{C:Nat→Nat→Value}{fs:List F}(hk:k<ts.length)(hs:s.size≤maxLen)(hPQ:∀b,P b→Q b)
  (hr:∀i,i<ts.length→TRep w P (tth ts i) (.agg #[C i 0,C i 1,C i 2])) (hf:aC6 w Q fs (some ⟨gF,0,none⟩)) (hcF:fs.length≤capF)
  (h:w.ownsRow base 52 3 (.slice (some ⟨g,0,none⟩) ts.length cap) ts.length ((aEE C ts.length).set (k*3+2) (.slice (some ⟨gF,0,none⟩) fs.length capF))) (hl:ts.length≤1000000) (hc:ts.length≤cap):
  PRep w (fun b=>Q b∨(base≤b∧b<w.heap.size)) ⟨s,ts.set k ⟨(tth ts k).name,(tth ts k).key,fs⟩⟩ (.agg #[.string s,.slice (some ⟨g,0,none⟩) ts.length cap]):=by
 have hl2:(ts.set k ⟨(tth ts k).name,(tth ts k).key,fs⟩).length=ts.length:=by simp
 refine⟨some ⟨g,0,none⟩,cap,by rw[hl2],?_,by rw[hl2];exact hc,hs⟩
 rw[flat3_other _ _ _ _ hk,←hl2] at h
 refine rowTs (C:=other C k (.slice (some ⟨gF,0,none⟩) fs.length capF)) (fun i hi=>?_) h (by rw[hl2];omega)
 rw[hl2] at hi
 unfold other
 by_cases e:i=k
 ·subst e
  rw[aHL _ _ _ hk]
  obtain⟨fa,fc,e1,h1,h2,h3,h4⟩:=hr i hk
  simp only[Value.agg.injEq,Array.mk.injEq,List.cons.injEq,and_true] at e1
  obtain⟨e0,e1,e2⟩:=e1
  refine⟨_,capF,?_,hf,hcF,h3,h4⟩
  simp[e0,e1]
 ·rw[aH7 _ _ _ _ e]
  simp only[e,false_and,if_false]
  exact(hr i hi).sub hPQ
end Go.Proofs.YtokmgbidmnanpaaGreatDoor
namespace Go.Proofs.YtokmgbidmnanpaaGreatDoor
open Go.RowKit Go.Maps
def hideC(D:Nat→Nat→Value)(fs:List F)(n:ByteArray)(k:Nat):Nat→Nat→Value:=fun i j=>if j=5∧i<k∧(fth fs i).name.toList=n.toList then .bool true else D i j
theorem hideC_zero(D:Nat→Nat→Value)(fs:List F)(n:ByteArray):hideC D fs n 0=D:=by
 funext i j
 simp[hideC]
theorem hideC_skip(D:Nat→Nat→Value)(fs:List F)(n:ByteArray)(k:Nat)(h:(fth fs k).name.toList≠n.toList):hideC D fs n (k+1)=hideC D fs n k:=by
 funext i j
 unfold hideC
 by_cases e:i=k
 ·subst e;simp[h]
 ·have:i<k+1↔i<k:=by omega
  simp only[this]
theorem hideC_hit(D:Nat→Nat→Value)(fs:List F)(n:ByteArray)(N k:Nat)(hk:k<N)(h:(fth fs k).name.toList=n.toList):(aCP (hideC D fs n k) N).set (k*8+5) (.bool true)=aCP (hideC D fs n (k+1)) N:=by
 apply flat8_of (by simp[aDA])
 intro i hi j hj
 have h0:=aLN (hideC D fs n k) N i j hi hj
 by_cases e:i=k∧j=5
 ·obtain⟨rfl,rfl⟩:=e
  rw[List.getElem?_set_self (by rw[aDA];omega)]
  simp[hideC,h]
 ·rw[List.getElem?_set_ne (by omega),h0]
  unfold hideC
  by_cases e2:i=k
  ·have:j≠5:=fun h=>e ⟨e2,h⟩
   simp[this]
  ·have:i<k+1↔i<k:=by omega
   simp only[this]
theorem fth_hide(n:ByteArray)(fs:List F)(i:Nat)(hi:i<fs.length):fth (hideF n fs) i=if(fth fs i).name.toList=n.toList then⟨(fth fs i).name,(fth fs i).of,(fth fs i).list,(fth fs i).must,(fth fs i).far,true,(fth fs i).shared,(fth fs i).needs⟩ else fth fs i:=by
 unfold hideF fth
 rw[List.getD_eq_getElem?_getD,List.getD_eq_getElem?_getD,List.getElem?_map,List.getElem?_eq_getElem hi]
 rfl
theorem hideF_len(n:ByteArray)(fs:List F):(hideF n fs).length=fs.length:=by unfold hideF;rw[List.length_map]
theorem hideC_rep{w:World}{P:Nat→Prop}{fs:List F}{D:Nat→Nat→Value}(n:ByteArray)
  (hd:∀i,i<fs.length→FRep w P (fth fs i) (.agg #[D i 0,D i 1,D i 2,D i 3,D i 4,D i 5,D i 6,D i 7])) (i:Nat) (hi:i<fs.length):
  FRep w P (fth (hideF n fs) i) (.agg #[hideC D fs n fs.length i 0,hideC D fs n fs.length i 1,hideC D fs n fs.length i 2,hideC D fs n fs.length i 3,hideC D fs n fs.length i 4,hideC D fs n fs.length i 5,hideC D fs n fs.length i 6,hideC D fs n fs.length i 7]):=by
 obtain⟨na,nc,e,h1,h2,h3,h4,h5⟩:=hd i hi
 simp only[Value.agg.injEq,Array.mk.injEq,List.cons.injEq,and_true] at e
 obtain⟨e0,e1,e2,e3,e4,e5,e6,e7⟩:=e
 rw[fth_hide n fs i hi]
 by_cases h:(fth fs i).name.toList=n.toList
 ·rw[if_pos h]
  exact⟨na,nc,by simp[hideC,hi,h,e0,e1,e2,e3,e4,e6,e7],h1,h2,h3,h4,h5⟩
 ·rw[if_neg h]
  exact⟨na,nc,by simp[hideC,h,e0,e1,e2,e3,e4,e5,e6,e7],h1,h2,h3,h4,h5⟩
structure HidAt(w1:World)(X base g cap gF capF:Nat)(s n:ByteArray)(nt:Nat)(C D:Nat→Nat→Value)(fs:List F)(k:Nat)(w:World):Prop where
 box:w.heap[X]?=some (.cells #[.string s,.slice (some ⟨g,0,none⟩) nt cap] 43 (0,0))
 typ:w.ownsRow base 52 3 (.slice (some ⟨g,0,none⟩) nt cap) nt (aEE (other C 0 (.slice (some ⟨gF,0,none⟩) fs.length capF)) nt)
 fld:w.ownsRow base 54 8 (.slice (some ⟨gF,0,none⟩) fs.length capF) fs.length (aCP (hideC D fs n k) fs.length)
 ne:g≠gF
 low:w1.heap.size≤X∧X<base
 old:Below w1.heap.size w1 w
theorem HidAt.below{w1:World}{X base g cap gF capF:Nat}{s n:ByteArray}{nt:Nat}{C D:Nat→Nat→Value}{fs:List F}{k:Nat}{w w':World}(h:HidAt w1 X base g cap gF capF s n nt C D fs k w)(hb:Below w.heap.size w w'):HidAt w1 X base g cap gF capF s n nt C D fs k w':=by
 have h1:=h.typ.lt g rfl
 have h2:=h.fld.lt gF rfl
 have hl:=h.low
 exact⟨(hb.block X (by omega)).trans h.box,aAT h.typ fun b hq=>hb.block b (by have:g=b:=Option.some.inj hq;omega),aAT h.fld fun b hq=>hb.block b (by have:gF=b:=Option.some.inj hq;omega),h.ne,hl,h.old.trans (hb.mono h.old.size)⟩
theorem HidAt.skip{w1:World}{X base g cap gF capF:Nat}{s n:ByteArray}{nt:Nat}{C D:Nat→Nat→Value}{fs:List F}{k:Nat}{w:World}(h:HidAt w1 X base g cap gF capF s n nt C D fs k w)(hn:(fth fs k).name.toList≠n.toList):HidAt w1 X base g cap gF capF s n nt C D fs (k+1) w:=
 ⟨h.box,h.typ,by rw[hideC_skip _ _ _ _ hn];exact h.fld,h.ne,h.low,h.old⟩
theorem HidAt.hit{w1:World}{X base g cap gF capF:Nat}{s n:ByteArray}{nt:Nat}{C D:Nat→Nat→Value}{fs:List F}{k:Nat}{w:World}(h:HidAt w1 X base g cap gF capF s n nt C D fs k w)(hk:k<fs.length)(hn:(fth fs k).name.toList=n.toList):
  HidAt w1 X base g cap gF capF s n nt C D fs (k+1) (w.setCell ⟨gF,k*8+5,none⟩ (.bool true)):=by
 have h1:=h.typ.lt g rfl
 have h2:=h.fld.lt gF rfl
 have hl:=h.low
 have hne:∀b,b≠gF→(w.setCell ⟨gF,k*8+5,none⟩ (.bool true)).heap[b]?=w.heap[b]?:=fun b hq=>Below.heap_setCell _ _ _ _ hq
 refine⟨(hne X (by omega)).trans h.box,aAT h.typ fun b hq=>hne b (by have:g=b:=Option.some.inj hq;have:=h.ne;omega),?_,h.ne,hl,h.old.setCell (by show w1.heap.size≤gF;omega) _⟩
 rw[←hideC_hit D fs n fs.length k hk hn]
 exact(h.fld.stored (k*8+5) (.bool true)).1
theorem HidAt.part{w1:World}{X base g cap gF capF:Nat}{s n:ByteArray}{ts:List T}{C D:Nat→Nat→Value}{w:World}(h:HidAt w1 X base g cap gF capF s n ts.length C D (tth ts 0).fields (tth ts 0).fields.length w)(hs:s.size≤maxLen)(h0:0<ts.length)(hl:ts.length≤1000000)(hlf:(tth ts 0).fields.length≤1000000)
  (hr:∀i,i<ts.length→TRep w1 (·<w1.heap.size) (tth ts i) (.agg #[C i 0,C i 1,C i 2]))
  (hd:∀i,i<(tth ts 0).fields.length→FRep w1 (·<w1.heap.size) (fth (tth ts 0).fields i) (.agg #[D i 0,D i 1,D i 2,D i 3,D i 4,D i 5,D i 6,D i 7])):
  PRep w (·<w.heap.size) (hideP ⟨s,ts⟩ n) (.agg #[.string s,.slice (some ⟨g,0,none⟩) ts.length cap]):=by
 have h1:=h.typ.lt g rfl
 have h2:=h.fld.lt gF rfl
 have hlo:=h.low
 have ho:=h.typ
 rw[←flat3_other C ts.length 0 _ h0] at ho
 have hrw:∀i,i<ts.length→TRep w (·<w1.heap.size) (tth ts i) (.agg #[C i 0,C i 1,C i 2]):=fun i hi=>(hr i hi).mono fun b hb=>h.old.block b hb
 have hdw:∀i,i<(tth ts 0).fields.length→FRep w (·<w1.heap.size) (fth (tth ts 0).fields i) (.agg #[D i 0,D i 1,D i 2,D i 3,D i 4,D i 5,D i 6,D i 7]):=fun i hi=>(hd i hi).mono fun b hb=>h.old.block b hb
 have hF:=h.fld
 have hlen:=hideF_len n (tth ts 0).fields
 have hFS:=rowFs2 (fs:=hideF n (tth ts 0).fields) (P:=(·<w1.heap.size)) (C:=hideC D (tth ts 0).fields n (tth ts 0).fields.length) (base:=base) (g:=gF) (cap:=capF) (w:=w) (by rw[hlen];exact hideC_rep n hdw) (by rw[hlen];exact hF) (by omega)
 have hP:=otherT (fs:=hideF n (tth ts 0).fields) (P:=(·<w1.heap.size)) (Q:=fun b=>b<w1.heap.size∨(base≤b∧b<w.heap.size)) h0 hs (fun b h=>Or.inl h) hrw hFS (by rw[hlen];exact owns_cap hF) (by rw[hlen];exact ho) hl (owns_cap h.typ)
 exact hP.sub fun b hq=>by have:=h.old.size;rcases hq with(h| h)| h<;>omega
theorem hideP_sz(p:Pt)(n:ByteArray)(h0:0<p.types.length):szP (hideP p n)=szP p:=by
 have h2:szP p=p.name.size+(p.types.length+aBT p.types p.types.length):=rfl
 have hf:∀k,k≤(tth p.types 0).fields.length→aBY (hideF n (tth p.types 0).fields) k=aBY (tth p.types 0).fields k:=fun k hk=>aPC _ _ _ fun i hi=>by
  rw[fth_hide n _ i (by omega)]
  split<;>rfl
 have h6:szT (tth p.types 0)=(tth p.types 0).name.size+(tth p.types 0).key.size+((tth p.types 0).fields.length+aBY (tth p.types 0).fields (tth p.types 0).fields.length):=rfl
 have h7:szT ⟨(tth p.types 0).name,(tth p.types 0).key,hideF n (tth p.types 0).fields⟩=(tth p.types 0).name.size+(tth p.types 0).key.size+((hideF n (tth p.types 0).fields).length+aBY (hideF n (tth p.types 0).fields) (hideF n (tth p.types 0).fields).length):=rfl
 rw[hideF_len,hf _ (Nat.le_refl _)] at h7
 have h4:szP (hideP p n)=p.name.size+((hideP p n).types.length+aBT (hideP p n).types (hideP p n).types.length):=rfl
 have h8:aBT (hideP p n).types p.types.length=aBT p.types p.types.length:=aPC _ _ _ fun i hi=>by
  by_cases e:i=0
  ·subst e
   have e0:tth (hideP p n).types 0=⟨(tth p.types 0).name,(tth p.types 0).key,hideF n (tth p.types 0).fields⟩:=aHL _ _ _ h0
   rw[e0];omega
  ·have e1:tth (hideP p n).types i=tth p.types i:=aH7 _ _ _ _ (by omega)
   rw[e1]
 have hl:(hideP p n).types.length=p.types.length:=by unfold hideP;simp
 rw[h4,hl,h8,h2]
end Go.Proofs.YtokmgbidmnanpaaGreatDoor
namespace Go.Proofs.YtokmgbidmnanpaaGreatDoor
open Go.RowKit Go.Maps
theorem own_nil{W:World}{base n:Nat}(T:TypeId)(sz:Nat)(h:W.heap[n]?=some (.cells #[] T (0,0)))(hb:base≤n):W.ownsRow base T sz (.slice (some ⟨n,0,none⟩) 0 0) 0 []:=
 ⟨by simp,.inr ⟨_,0,#[],rfl,hb,h,Nat.le_refl _,Nat.zero_le _,by simp,by simp⟩⟩
end Go.Proofs.YtokmgbidmnanpaaGreatDoor
namespace Go.Proofs.YtokmgbidmnanpaaGreatDoor
open Go.RowKit
theorem aDZ.inv2{w:World}{P:Nat→Prop}{x:Se}{v:Value}(h:aDZ w P x v):∃(ka:Option Addr) (kc:Nat),v=.agg #[.string x.al,.string x.name,.bool x.one,.int .i64 x.id,.slice ka x.kids.length kc]∧aAA w P x.kids ka:=by
 obtain⟨s,n,o,id,ks⟩:=x
 obtain⟨ka,kc,h1,-,-,h2⟩:=h.inv
 exact⟨ka,kc,h1,h2⟩
end Go.Proofs.YtokmgbidmnanpaaGreatDoor
namespace Go.Proofs.YtokmgbidmnanpaaGreatDoor
open Go.RowKit Go.Shelf Go.Maps
attribute [local go_sem] Oper.semAt_some
theorem OwnW.strsH{A:World}{lo:Nat}{way:Way}{a:Option Addr}(h:OwnW A lo way a):Strs A (fun b=>lo≤b∧b<A.heap.size) way a:=
 ⟨fun hn=>by
  obtain⟨g,e,h1,h2,h3,-⟩:=h.blk (List.length_pos_iff.2 hn)
  exact⟨g,0,e,⟨h1,h2⟩,fun i hi=>by rw[Nat.zero_add];exact h3 i hi⟩,h.sz,by have:=h.len;unfold maxLen;omega⟩
theorem hidden_great(w:World)(v u:Value)(a b:Option Addr)(n m c d:Nat)(hv:v=.slice a n c)(hu:u=.slice b m d)(h:1048576<n∨1048576<m):
  Calls Tryz.prog 7 #[v,u] w fun e w'=>e=.returned (.bool true)∧Below w.heap.size w w':=by
 subst hv hu
 by_cases h1:1048576<n
 ·have h1':(1048576:Int)<(n:Int):=by omega
  go_enter Tryz.func7,Tryz.ntmps7
  go_wp2_with fail
  go_ret
  exact⟨rfl,Below.refl _ _⟩
 ·have h1':¬(1048576:Int)<(n:Int):=by omega
  have h2':(1048576:Int)<(m:Int):=by omega
  go_enter Tryz.func7,Tryz.ntmps7
  go_wp2_with fail
  go_ret
  exact⟨rfl,Below.refl _ _⟩
set_option maxRecDepth 20000 in
set_option maxHeartbeats 3200000 in
theorem hidden_small(w:World)(cb n m c:Nat)(v:Value)(b:Option Addr)(h:aHX w cb v n)(hn:n≤1048576)(hm:m≤1048576)(hT:Tab w.heap.size w):
  Calls Tryz.prog 7 #[v,.slice b m c] w fun e w'=>e=.returned (.bool true)∧Below w.heap.size w w':=by
 have HDR:=aA0 (aI9 w cb n v h hn)
 have HT:=aA0 hT
 obtain⟨a,cc,off,rfl,-⟩:=h
 have h1':¬(1048576:Int)<(n:Int):=by omega
 have h2':¬(1048576:Int)<(m:Int):=by omega
 clear hT
 go_enter Tryz.func7,Tryz.ntmps7
 go_wp2_with fail
 refine HDR.out.mono ?_
 rintro e w1 ⟨p,ta,tc,ks,ka,kc,rfl,hPR,hz,hFO,h0,hSA,⟨hTr,hkc⟩,hb1⟩
 clear HDR h1' h2'
 obtain⟨F,hFn,hTr⟩:∃F:Nat,F≤1000000000∧Tr 4 F ks:=⟨6,by omega,hTr⟩
 have bX:=aA2 w1 (.cells #[.string p.name,.slice ta p.types.length tc] 43)
 have HB1:=aA0 (hb1.trans (bX.mono hb1.size))
 have HA1:=aA0 (aO9 hFn hTr hSA ((HT.out.on hb1).up hb1.size))
 have HF:=aA0 hTr.fit
 have HO:=aA0 hSA.old
 have HPV:=aA0 (hPR.sub (Q:=fun b=>b<w1.heap.size) fun b hb=>hb.2)
 have HFn:=aA0 hFn
 have nX:=aA3 (w:=w1) (N:=w1.heap.size) #[.string p.name,.slice ta p.types.length tc] 43 rfl
 have zX:(w1.alloc (.cells #[.string p.name,.slice ta p.types.length tc] 43)).heap.size=w1.heap.size+1:=by simp
 have HX:=aA0 bX
 have HZX:=aA0 zX
 clear hPR hTr hSA hb1 HT hFO hFn
 obtain⟨l,HL⟩:∃l,Hid (l=p.types.length):=⟨_,aA0 rfl⟩
 have HPV0:=HPV
 rw[←HL.out] at HPV HB1 HX HZX nX bX zX ⊢
 go_upto_region 4 with fail
 generalize w1.alloc (.cells #[.string p.name,.slice ta l tc] 43)=X at*
 clear bX zX
 have HC:Hid (∀W,Below X.heap.size X W→W.cell? ⟨w1.heap.size,0,none⟩=some (.string p.name)∧W.cell? ⟨w1.heap.size,1,none⟩=some (.slice ta l tc)):=aA0 fun W hW=>by
  have h:=(hW.block w1.heap.size (by have:=HZX.out;omega)).trans nX
  exact⟨(aA1 h 0 (by simp)).1,(aA1 h 1 (by simp)).1⟩
 have HBX:Hid (∀W,Below X.heap.size X W→Below w1.heap.size w1 W∧w1.heap.size≤W.heap.size):=aA0 fun W hW=>⟨HX.out.trans (hW.mono HX.out.size),by have:=HX.out.size;have:=hW.size;omega⟩
 have HPW:Hid (∀W,Below X.heap.size X W→PRep W (·<W.heap.size) p (.agg #[.string p.name,.slice ta l tc])):=aA0 fun W hW=>(HPV.out.under (HBX.out W hW).1).sub fun b hb=>by have:=(HBX.out W hW).2;omega
 have HKW:Hid (∀W,Below X.heap.size X W→aAA W (·<W.heap.size) ks ka):=aA0 fun W hW=>(HO.out.under (HBX.out W hW).1).sub fun b hb=>by have:=(HBX.out W hW).2;omega
 have HAW:Hid (∀W,Below X.heap.size X W→aJO F ks (fun b=>w.heap.size≤b∧b<w1.heap.size∧aBK w1 b) w1.heap.size ka W):=aA0 fun W hW=>HA1.out.on (HBX.out W hW).1
 have HCI:=aA0 (fun W (hW:Below X.heap.size X W)=>aGN F p ks _ _ ka kc _ W (HAW.out W hW) (HPW.out W hW) hz)
 have HCS:=aA0 (fun W (hW:Below X.heap.size X W)=>aEZ F p ks ka kc _ W HF.out (HKW.out W hW) HFn.out (HPW.out W hW) hz)
 have HC2:Hid (∀W v' q,Below X.heap.size X W→PRep W (·<W.heap.size) q v'→szP q≤1048576→Calls Tryz.prog 32 #[v',.slice ka ks.length kc] W fun e w'=>∃y,e=.returned (.agg #[y,.int .i64 (aCE (aBM F q ks))])∧Below W.heap.size W w'):=aA0 fun W v' q hW hq hz'=>(aGN F q ks _ _ ka kc _ W (HAW.out W hW) hq hz').mono fun e w' h=>by
  obtain⟨a',c',h1,-,h2⟩:=h
  exact⟨_,h1,h2⟩
 have HOK:Hid (aCE (aBM F p ks)=0→okP p=true∧0<ks.length):=aA0 fun h=>⟨(askChk_none.1 h).1,(aK1 HF.out h).2.2.1⟩
 have HHR:=aA0 (fun(h:aCE (aBM F p ks)=0)=>hidden_refused HF.out h)
 have HKE:Hid (∀W,Below X.heap.size X W→∀i,i<ks.length→∃b o,ka=some ⟨b,o,none⟩∧W.cell? ⟨b,o+i*5+1,none⟩=some (.string (sth ks i).name)):=aA0 fun W hW i hi=>by
  obtain⟨-,C,hA,hr⟩:=HKW.out W hW
  obtain⟨b,o,e,-,hc⟩:=hA (by omega)
  have h2:=hc i hi 1 (by omega)
  have h1:=hr i hi
  obtain⟨_,_,e1,-⟩:=h1.inv2
  simp only[Value.agg.injEq,Array.mk.injEq,List.cons.injEq,and_true] at e1
  obtain⟨-,e1,-⟩:=e1
  rw[e1] at h2
  exact⟨b,o,e,h2⟩
 have HHP:Hid (∀k,hideP p (sth ks k).name=hideP p (sth ks k).name):=aA0 fun k=>rfl
 obtain⟨ck,HCK⟩:∃x,Hid (x=aBM F p ks):=⟨_,aA0 rfl⟩
 rw[←HCK.out] at HCI HCS HOK HHR
 obtain⟨cd,HCD⟩:∃x,Hid (x=aCE ck):=⟨_,aA0 rfl⟩
 obtain⟨wy,HWY⟩:∃x,Hid (x=wayO ck):=⟨_,aA0 rfl⟩
 rw[←HCD.out] at HOK HHR
 unfold aUC at HCI
 unfold FltM at HCS
 rw[←HCD.out,←HWY.out] at HCI HCS
 have hkc':=hkc
 have HK72:=aA0 HO.out.1
 clear nX HX HPV HO HF HFn HA1 HHP HZX hkc
 obtain⟨c0,c1⟩:=HC.out X (Below.refl _ _)
 go_upto_region 5 with(
  go_at_call 32
  refine(HCI.out X (Below.refl _ _)).mono ?_
  rintro e w2 ⟨fa,fc,rfl,hO2,b2⟩)
 have HS2:=aA0 hO2.strsH
 have b3:=b2.trans ((aA2 w2 (.cells #[.slice fa wy.length fc,.int .i64 cd] 48)).mono b2.size)
 have n3:=aA3 (w:=w2) (N:=w2.heap.size) #[.slice fa wy.length fc,.int .i64 cd] 48 rfl
 have z3:w2.heap.size<(w2.alloc (.cells #[.slice fa wy.length fc,.int .i64 cd] 48)).heap.size:=by simp
 have q3:=aA2 w2 (.cells #[.slice fa wy.length fc,.int .i64 cd] 48)
 clear hO2 c0 c1
 generalize w2.alloc (.cells #[.slice fa wy.length fc,.int .i64 cd] 48)=w3 at*
 obtain⟨d0,d1⟩:=HC.out w3 b3
 go_upto_region 6 with(
  go_at_call 33
  refine(HCS.out w3 b3).mono ?_
  rintro e w4 ⟨ga,gc,rfl,hS4,b4⟩)
 have HS4:=aA0 hS4
 have b5:=b4.trans ((aA2 w4 (.cells #[.slice ga wy.length gc,.int .i64 cd] 48)).mono b4.size)
 have n5:=aA3 (w:=w4) (N:=w4.heap.size) #[.slice ga wy.length gc,.int .i64 cd] 48 rfl
 have q5:=aA2 w4 (.cells #[.slice ga wy.length gc,.int .i64 cd] 48)
 have z5:w4.heap.size<(w4.alloc (.cells #[.slice ga wy.length gc,.int .i64 cd] 48)).heap.size:=by simp
 clear hS4 d0 d1
 generalize w4.alloc (.cells #[.slice ga wy.length gc,.int .i64 cd] 48)=w5 at*
 have HFW:Hid (∀W,Below w5.heap.size w5 W→W.cell? ⟨w2.heap.size,0,none⟩=some (.slice fa wy.length fc)∧W.cell? ⟨w2.heap.size,1,none⟩=some (.int .i64 cd)∧W.cell? ⟨w4.heap.size,0,none⟩=some (.slice ga wy.length gc)∧W.cell? ⟨w4.heap.size,1,none⟩=some (.int .i64 cd)):=aA0 fun W hW=>by
  have hs2:=b4.size
  have h3:=((q5.trans (hW.mono q5.size)).block w2.heap.size (by omega)).trans ((b4.block w2.heap.size z3).trans n3)
  have h5:=(hW.block w4.heap.size z5).trans n5
  exact⟨(aA1 h3 0 (by simp)).1,(aA1 h3 1 (by simp)).1,(aA1 h5 0 (by simp)).1,(aA1 h5 1 (by simp)).1⟩
 have HWP:Hid (∀W,Below w5.heap.size w5 W→Calls Tryz.prog 21 #[.slice fa wy.length fc,.slice ga wy.length gc] W fun e w'=>e=.returned (.bool true)∧Below W.heap.size W w'):=aA0 fun W hW=>by
  have hs3:=q3.size
  have hs4:=b4.size
  have h1:=HS2.out.mono fun b (hb:_∧_)=>(q3.trans ((b4.trans ((q5.trans (hW.mono q5.size)).mono hs4)).mono hs3)).block b hb.2
  have h2:=HS4.out.mono fun b (hb:_∧_)=>(q5.trans (hW.mono q5.size)).block b hb.2
  exact(aOH wy fa ga fc gc W _ _ h1 h2).mono fun e w' ⟨h3,k,h4⟩=>⟨h3,by rw[h4];exact aAL (Below.refl _ _) _⟩
 have b35:=b3.trans ((b4.trans (q5.mono b4.size)).mono b3.size)
 have b5':Below X.heap.size X w5:=b3.trans (b5.mono b3.size)
 have HBE:Hid (∀W,Below w5.heap.size w5 W→Below X.heap.size X W∧Below w.heap.size w W):=aA0 fun W hW=>by
  have h1:=b5'.trans (hW.mono b5'.size)
  exact⟨h1,HB1.out.trans (h1.mono HB1.out.size)⟩
 clear n3 n5 q3 q5 b4 b5 b2 b3 HS2 HS4 HCI HCS b35
 obtain⟨f0,f1,g0,g1⟩:=HFW.out w5 (Below.refl _ _)
 by_cases hcz:cd=0
 case neg=>
  go_upto_if 19 with(
   go_at_call 21
   refine(HWP.out w5 (Below.refl _ _)).mono ?_
   rintro e w6 ⟨rfl,b6⟩
   obtain⟨f0,f1,g0,g1⟩:=HFW.out w6 b6)
  go_wp2_with (
   go_at_call 21
   refine(HWP.out w6 b6).mono ?_
   rintro e w7 ⟨rfl,b7⟩
   have b7:=b6.trans (b7.mono b6.size))
  go_ret
  exact⟨rfl,(HBE.out w7 b7).2⟩
 subst hcz
 obtain⟨hok,hks0⟩:=HOK.out rfl
 have HR:=aA0 (HHR.out rfl)
 have hcn:=aKL (aQS hok h0)
 have hl5:=(aT8 hok).2
 have hlp0:0<l:=by rw[HL.out];exact h0
 have hl5':l≤5:=by rw[HL.out];exact hl5
 obtain⟨nk,HNK⟩:∃x,Hid (x=ks.length):=⟨_,aA0 rfl⟩
 obtain⟨kk,hkk⟩:∃k,k=m % nk:=⟨_,rfl⟩
 have hnk0:0<nk:=by rw[HNK.out];exact hks0
 have hkn:kk<nk:=by rw[hkk];exact Nat.mod_lt _ hnk0
 have hrem:((m:Int).tmod (nk:Int))=(kk:Int):=by rw[hkk];exact(Int.ofNat_tmod m nk).symm
 have hnk0i:¬(nk:Int)=0:=by omega
 obtain⟨kb,ko,rfl,-⟩:∃b o,ka=some ⟨b,o,none⟩∧True:=by
  obtain⟨b,o,e,-⟩:=HKE.out X (Below.refl _ _) 0 hks0
  exact⟨b,o,e,trivial⟩
 have HKN:Hid (∀W,Below X.heap.size X W→W.cell? ⟨kb,ko+kk*5+1,none⟩=some (.string (sth ks kk).name)):=aA0 fun W hW=>by
  obtain⟨b,o,e,h1⟩:=HKE.out W hW kk (by rw[←HNK.out];exact hkn)
  simp only[Option.some.injEq,Addr.mk.injEq,and_true] at e
  obtain⟨rfl,rfl⟩:=e
  exact h1
 have HRK:=aA0 (HR.out kk (by rw[←HNK.out];exact hkn))
 have hnk72:nk≤kc:=by rw[HNK.out];exact hkc'
 rw[←HNK.out] at HC2 ⊢
 clear HHR HOK HR HKE hkk hkc' hks0
 obtain⟨ta',tc',he,⟨-,C,hA,hr⟩,htc,hsn⟩:=HPV0.out
 simp only[Value.agg.injEq,Array.mk.injEq,List.cons.injEq,Value.slice.injEq,true_and,and_true] at he
 obtain⟨rfl,rfl⟩:=he
 obtain⟨tb,tq,rfl,htbP,htcell⟩:=hA h0
 obtain⟨fa0,fcp,he,⟨-,D,hAD,hrD⟩,hfc2,htn,htk⟩:=hr 0 h0
 simp only[Value.agg.injEq,Array.mk.injEq,List.cons.injEq,and_true] at he
 obtain⟨k0,k1,k2⟩:=he
 obtain⟨fl,hfl⟩:∃n,n=(tth p.types 0).fields.length:=⟨_,rfl⟩
 rw[←hfl] at hcn hAD hrD k2 hfc2
 have hfl0:=hcn.1
 have hfl8:=hcn.2.1
 obtain⟨fb,fo,rfl,hfbP,hfcell⟩:=hAD hfl0
 have HTC:Hid (∀W,Below X.heap.size X W→W.cell? ⟨tb,tq+2,none⟩=some (.slice (some ⟨fb,fo,none⟩) fl fcp)):=aA0 fun W hW=>by
  have h2:=htcell 0 h0 2 (by omega)
  rw[k2,Nat.zero_mul,Nat.add_zero] at h2
  exact((HBX.out W hW).1.cell (p:=⟨tb,tq+2,none⟩) htbP).trans h2
 have HRT:Hid (∀i,i<p.types.length→TRep X (·<X.heap.size) (tth p.types i) (.agg #[C i 0,C i 1,C i 2])):=aA0 fun i hi=>((hr i hi).under (HBX.out X (Below.refl _ _)).1).sub fun b hb=>by have:=(HBX.out X (Below.refl _ _)).2;omega
 have HRF:Hid (∀i,i<fl→FRep X (·<X.heap.size) (fth (tth p.types 0).fields i) (.agg #[D i 0,D i 1,D i 2,D i 3,D i 4,D i 5,D i 6,D i 7])):=aA0 fun i hi=>((hrD i hi).under (HBX.out X (Below.refl _ _)).1).sub fun b hb=>by have:=(HBX.out X (Below.refl _ _)).2;omega
 have HAT:Hid (∀W,Below X.heap.size X W→aGH W (some ⟨tb,tq,none⟩) l (aEE C l)):=aA0 fun W hW=>by rw[HL.out];exact flat3_lies (hA.mono fun q hq=>(HBX.out W hW).1.block q hq)
 have HAF:Hid (∀W,Below X.heap.size X W→aGH W (some ⟨fb,fo,none⟩) fl (aCP D fl)):=aA0 fun W hW=>aKK (hAD.mono fun q hq=>(HBX.out W hW).1.block q hq)
 have HO3:Hid (∀u∈ aEE C l,u.oneCell'=true):=aA0 (by rw[HL.out];exact flat3_one hr)
 have HO8:Hid (∀u∈ aCP D fl,u.oneCell'=true):=aA0 (by rw[hfl];exact aNH (fs:=(tth p.types 0).fields) (fun i hi=>hrD i (by rw[hfl];exact hi)))
 have HSN:=aA0 hsn
 have HFL:=aA0 hfl
 have HZ:=aA0 (hideP_sz p (sth ks kk).name h0)
 have H0:=aA0 h0
 obtain⟨N,HN⟩:∃x,Hid (x=(sth ks kk).name):=⟨_,aA0 rfl⟩
 rw[←HN.out] at HRK HKN HZ
 have HL5:=aA0 hl5
 have hltc:l≤tc:=by rw[HL.out];exact htc
 clear hA hr htc hsn k0 k1 k2 hAD hrD htn htk hfl htcell hfcell htbP hfbP hcn hl5 hok h0 HPV0 HL5
 go_upto_region 10 with(
  go_at_call 21
  refine(HWP.out w5 (Below.refl _ _)).mono ?_
  rintro e w6 ⟨rfl,b6⟩
  obtain⟨f0,f1,g0,g1⟩:=HFW.out w6 b6
  obtain⟨y0,y1⟩:=HC.out w6 (HBE.out w6 b6).1)
 have nY:=aA3 (w:=w6) (N:=w6.heap.size) #[.string p.name,.slice (some ⟨tb,tq,none⟩) l tc] 43 rfl
 have bY:=aA2 w6 (.cells #[.string p.name,.slice (some ⟨tb,tq,none⟩) l tc] 43)
 have hY1:w6.heap.size<(w6.alloc (.cells #[.string p.name,.slice (some ⟨tb,tq,none⟩) l tc] 43)).heap.size:=by simp
 obtain⟨XB,hXB⟩:∃x,x=w6.heap.size:=⟨_,rfl⟩
 generalize w6.alloc (.cells #[.string p.name,.slice (some ⟨tb,tq,none⟩) l tc] 43)=w7 at*
 have b7:Below w5.heap.size w5 w7:=b6.trans (bY.mono b6.size)
 have hXlow:X.heap.size≤XB:=by have:=(HBE.out w6 b6).1.size;omega
 rw[←hXB] at nY hY1 bY ⊢
 clear f0 f1 g0 g1 y0 y1 hXB b6 bY
 have b7X:=(HBE.out w7 b7).1
 have HXW:Hid (∀W,Below w7.heap.size w7 W→W.cell? ⟨w1.heap.size,1,none⟩=some (.slice (some ⟨tb,tq,none⟩) l tc)∧Below X.heap.size X W):=aA0 fun W hW=>by
  have h1:=b7X.trans (hW.mono b7X.size)
  exact⟨(HC.out W h1).2,h1⟩
 have x1:∀o,(w7.alloc o).cell? ⟨w1.heap.size,1,none⟩=some (.slice (some ⟨tb,tq,none⟩) l tc):=fun o=>(HXW.out _ (aA2 w7 o)).1
 obtain⟨iT,hiT,hzT,hsT,hbT⟩:=info_parts aV0
 go_upto_region 11 with(
  at_builtin
  refine aD4 rfl (.tmp 67) (.tmp 69) 41 rfl w7.heap.size 52 iT _ 3 56 Tryz.underlying41 hiT hzT hsT hbT rfl (by omega) w7.heap.size 0 0 [] rfl (own_nil 52 3 (aA3 _ _ rfl) (Nat.le_refl _)) (some ⟨tb,tq,none⟩) l tc (aEE C l) rfl (aDV _ _) (HAT.out _ (HXW.out _ (aA2 w7 _)).2) HO3.out (by unfold maxLen;omega) (by omega) (by simp) ?_
  intro g1 cap1 w8 o1 gr1 at1
  simp only[Nat.zero_add,List.nil_append] at o1 ⊢
  have b8:Below w7.heap.size w7 w8:=(aA2 w7 _).grown gr1 (by simp) (fun q hq=>by cases hq;exact Nat.le_refl _)
  have nY8:=(b8.block XB hY1).trans nY
  have O8:=aA0 o1
  obtain⟨c1,z1⟩:=aA1 nY8 1 (by simp)
  simp only[List.getElem_toArray,List.getElem_cons_zero,List.getElem_cons_succ] at c1
  clear o1 gr1 at1)
 clear c1 z1 x1
 have nY9:=aA9 nY8 1 (.slice (some ⟨g1,0,none⟩) l cap1)
 simp only[List.setIfInBounds_toArray,List.set_cons_zero,List.set_cons_succ] at nY9
 have o9:=ownsRow_setCell_below O8.out (a:=⟨XB,1,none⟩) hY1 (.slice (some ⟨g1,0,none⟩) l cap1)
 have b9:=(((b7X).trans (b8.mono b7X.size)).setCell (p:=⟨XB,1,none⟩) hXlow (.slice (some ⟨g1,0,none⟩) l cap1))
 generalize w8.setCell ⟨XB,1,none⟩ (.slice (some ⟨g1,0,none⟩) l cap1)=w9 at*
 clear nY8 O8 b8 nY HXW
 have hg1:=o9.lt g1 rfl
 have hgB:g1≤w9.heap.size:=by omega
 have hYg:XB<g1:=by omega
 have HW9:Hid (∀W,Below w9.heap.size w9 W→Below X.heap.size X W):=aA0 fun W hW=>b9.trans (hW.mono b9.size)
 have HSD:Hid (∀W,Below g1 w9 W→W.cell? ⟨XB,1,none⟩=some (.slice (some ⟨g1,0,none⟩) l cap1)∧W.cell? ⟨w1.heap.size,1,none⟩=some (.slice (some ⟨tb,tq,none⟩) l tc)∧W.cell? ⟨tb,tq+2,none⟩=some (.slice (some ⟨fb,fo,none⟩) fl fcp)):=aA0 fun W hW=>by
  have hb:=b9.trans (hW.mono (by omega))
  exact⟨(aA1 ((hW.block XB hYg).trans nY9) 1 (by simp)).1,(HC.out W hb).2,HTC.out W hb⟩
 have HTT:Hid (∀W,Below w9.heap.size w9 W→W.cell? ⟨g1,2,none⟩=some (C 0 2)∧W.frozen? ⟨g1,2,none⟩=false):=aA0 fun W hW=>⟨(hW.cell (p:=⟨g1,2,none⟩) hg1.2).trans ((o9.cellAt 2 (by omega)).trans (aGS C l 0 2 hlp0 (by omega))),(hW.frozen (p:=⟨g1,2,none⟩) hg1.2).trans (o9.frozenAt _)⟩
 obtain⟨iF,hiF,hzF,hsF,hbF⟩:=info_parts aUW
 have HM2:Hid (∀W gF capF,Below w9.heap.size w9 W→W.ownsRow w9.heap.size 54 8 (.slice (some ⟨gF,0,none⟩) fl capF) fl (aCP D fl)→HidAt X XB w7.heap.size g1 cap1 gF capF p.name N l C D (tth p.types 0).fields 0 (W.setCell ⟨g1,2,none⟩ (.slice (some ⟨gF,0,none⟩) fl capF))):=aA0 fun W gF capF hW ho=>by
  have hs:=hW.size
  have hgF:=(ho.lt gF rfl).1
  have hb:=b9.trans (hW.mono b9.size)
  have hoT:=((aBC o9 hW).stored 2 (.slice (some ⟨gF,0,none⟩) fl capF)).1
  have hne:∀b,b≠g1→(W.setCell ⟨g1,2,none⟩ (.slice (some ⟨gF,0,none⟩) fl capF)).heap[b]?=W.heap[b]?:=fun b hq=>Below.heap_setCell _ _ _ _ hq
  have hoF:(W.setCell ⟨g1,2,none⟩ (.slice (some ⟨gF,0,none⟩) fl capF)).ownsRow w7.heap.size 54 8 (.slice (some ⟨gF,0,none⟩) fl capF) fl (aCP D fl):=aAT (⟨ho.1,ho.2.imp id fun⟨g,c',cur,e,hb',r⟩=>⟨g,c',cur,e,by omega,r⟩⟩:W.ownsRow w7.heap.size 54 8 (.slice (some ⟨gF,0,none⟩) fl capF) fl (aCP D fl)) fun b hq=>hne b (by have:gF=b:=Option.some.inj hq;omega)
  have hfe:(aEE C l).set 2 (.slice (some ⟨gF,0,none⟩) fl capF)=aEE (other C 0 (.slice (some ⟨gF,0,none⟩) fl capF)) l:=flat3_other C l 0 _ hlp0
  rw[hfe] at hoT
  refine⟨(hne XB (by omega)).trans ((hW.block XB (by omega)).trans nY9),?_,?_,by omega,⟨hXlow,hY1⟩,hb.setCell (p:=⟨g1,2,none⟩) (by show X.heap.size≤g1;omega) _⟩
  ·rw[←HFL.out];exact hoT
  ·rw[hideC_zero,←HFL.out];exact hoF
 go_cut [] (fun wx=>∃gF capF,Hid (HidAt X XB w7.heap.size g1 cap1 gF capF p.name N l C D (tth p.types 0).fields 0 wx))
 case first=>
  refine wp_region_held_drew (S:=(fun w'=>w'.cell? ⟨XB,1,none⟩=some (.slice (some ⟨g1,0,none⟩) l cap1)∧w'.cell? ⟨w1.heap.size,1,none⟩=some (.slice (some ⟨tb,tq,none⟩) l tc)∧w'.cell? ⟨tb,tq+2,none⟩=some (.slice (some ⟨fb,fo,none⟩) fl fcp))) (by kernel_rfl) (HSD.out _ (Below.refl _ _).drew) (fun hHeld=>?_)
  have bX:Below w9.heap.size w9 w9.drew:=(Below.refl _ _).drew
  generalize w9.drew=wE0 at*
  refine tkH 0 hHeld ?_
  refine tkH 1 hHeld ?_
  refine tkH 3 hHeld ?_
  refine tkH 4 hHeld ?_
  refine tkH 5 hHeld ?_
  refine tkH 6 hHeld ?_
  refine tkH 7 hHeld ?_
  refine rdyH [2] ?_
  refine rcH (fun K hK=>?_) AllReadyH.nil
  go_simp
  have bA:=aA2 wE0 (.cells #[] 54)
  obtain⟨gA,hgA⟩:∃g,g=wE0.heap.size:=⟨_,rfl⟩
  have nA:=aA3 (w:=wE0) (N:=gA) #[] 54 hgA.symm
  have hgA2:w9.heap.size≤gA:=by have:=bX.size;omega
  have bX:=bX.trans (bA.mono bX.size)
  refine hK.out _ _ (HSD.out _ (bX.mono hgB)) (fun hHeld=>?_)
  clear hK K
  try simp only[Act.put,List.setIfInBounds_toArray,List.set_cons_zero,List.set_cons_succ]
  rw[←hgA]
  generalize wE0.alloc (.cells #[] 54)=wA1 at*
  clear hgA bA
  refine rdyH [8] ?_
  refine rcH (fun K hK=>?_) AllReadyH.nil
  refine aE2 rfl (.tmp 74) (.tmp 79) 50 rfl w9.heap.size 54 iF _ 8 64 Tryz.underlying50 hiF hzF hsF hbF rfl (by omega) gA 0 0 [] rfl (own_nil 54 8 nA hgA2) (some ⟨fb,fo,none⟩) fl fcp (aCP D fl) rfl (aDA _ _) (HAF.out _ (HW9.out _ bX)) HO8.out (by unfold maxLen;omega) (by omega) bX.size ?_
  intro gF capF wF1 o1 gr1 at1
  simp only[Nat.zero_add,List.nil_append] at o1 ⊢
  have bX:=bX.grown gr1 bX.size (fun q hq=>by cases hq;exact hgA2)
  have HQ:=aA0 o1
  clear o1 gr1 at1 nA
  try have nA:=(bF.block gA (Array.getElem?_eq_some_iff.1 nA).1).trans nA
  refine hK.out _ _ (HSD.out _ (bX.mono hgB)) (fun hHeld=>?_)
  clear hK K
  try simp only[Act.put,List.setIfInBounds_toArray,List.set_cons_zero,List.set_cons_succ]
  refine tkH 9 hHeld ?_
  refine tkH 10 hHeld ?_
  refine rdyH [11] ?_
  refine rcH (fun K hK=>?_) AllReadyH.nil
  obtain⟨c1,z1⟩:=HTT.out _ bX
  go_simp
  clear c1 z1
  refine hK.out _ _ (HSD.out _ (Below.setCell (p:=⟨g1,2,none⟩) (bX.mono hgB) (Nat.le_refl _) _)) (fun hHeld=>?_)
  clear hK K
  try simp only[Act.put,List.setIfInBounds_toArray,List.set_cons_zero,List.set_cons_succ]
  refine wpAnyH_done (by kernel_rfl) ?_ _
  have HF1:=aA0 (HM2.out _ gF capF bX HQ.out)
  clear HQ bX
  generalize wF1.setCell ⟨g1,2,none⟩ (.slice (some ⟨gF,0,none⟩) fl capF)=wZ at*
  go_wp2_with fail
  go_meet
  case rel=>exact⟨_,_,HF1⟩
 case rest=>
 obtain⟨gF,capF,HH⟩:=hcut
 obtain⟨w10,rfl⟩:∃x,x=wc:=⟨wc,rfl⟩
 clear HM2 HSD HTT HW9 o9 nY9 hg1 hgB hYg b9
 have HHC:Hid (∀W k,HidAt X XB w7.heap.size g1 cap1 gF capF p.name N l C D (tth p.types 0).fields k W→k<fl→W.cell? ⟨XB,1,none⟩=some (.slice (some ⟨g1,0,none⟩) l cap1)∧W.cell? ⟨g1,2,none⟩=some (.slice (some ⟨gF,0,none⟩) fl capF)∧W.cell? ⟨gF,k*8,none⟩=some (.string (fth (tth p.types 0).fields k).name)∧∃v,W.cell? ⟨gF,k*8+5,none⟩=some v∧W.frozen? ⟨gF,k*8+5,none⟩=false):=aA0 fun W k h hk=>by
  have hT:=h.typ.cellAt 2 (by omega)
  have hN:=h.fld.cellAt (k*8) (by rw[←HFL.out];omega)
  have hH:=h.fld.cellAt (k*8+5) (by rw[←HFL.out];omega)
  have e0:=aLN (hideC D (tth p.types 0).fields N k) (tth p.types 0).fields.length k 0 (by rw[←HFL.out];exact hk) (by omega)
  have e5:=aLN (hideC D (tth p.types 0).fields N k) (tth p.types 0).fields.length k 5 (by rw[←HFL.out];exact hk) (by omega)
  have e2:=aGS (other C 0 (.slice (some ⟨gF,0,none⟩) (tth p.types 0).fields.length capF)) l 0 2 hlp0 (by omega)
  obtain⟨na,nc,e,-⟩:=HRF.out k hk
  simp only[Value.agg.injEq,Array.mk.injEq,List.cons.injEq,and_true] at e
  have ed:hideC D (tth p.types 0).fields N k k 0=.string (fth (tth p.types 0).fields k).name:=by rw[←e.1];simp[hideC]
  rw[ed] at e0
  refine⟨(aA1 h.box 1 (by simp)).1,hT.trans (e2.trans ?_),hN.trans e0,_,hH.trans e5,h.fld.frozenAt _⟩
  rw[HFL.out]
  rfl
 have HHE:Hid (∀W,HidAt X XB w7.heap.size g1 cap1 gF capF p.name N l C D (tth p.types 0).fields fl W→W.cell? ⟨XB,0,none⟩=some (.string p.name)∧W.cell? ⟨XB,1,none⟩=some (.slice (some ⟨g1,0,none⟩) l cap1)∧W.cell? ⟨g1,2,none⟩=some (.slice (some ⟨gF,0,none⟩) fl capF)∧Below X.heap.size X W∧Calls Tryz.prog 32 #[.agg #[.string p.name,.slice (some ⟨g1,0,none⟩) l cap1],.slice (some ⟨kb,ko,none⟩) nk kc] W fun e w'=>∃y,e=.returned (.agg #[y,.int .i64 (aCE (aBM F (hideP p N) ks))])∧Below W.heap.size W w'):=aA0 fun W h=>by
  have h':=h
  have e2:=aGS (other C 0 (.slice (some ⟨gF,0,none⟩) (tth p.types 0).fields.length capF)) l 0 2 hlp0 (by omega)
  have hT:=h.typ.cellAt 2 (by omega)
  rw[HL.out,HFL.out] at h'
  have hP:=h'.part HSN.out H0.out (by have:=HL.out;omega) (by have:=HFL.out;omega) HRT.out (by rw[←HFL.out];exact HRF.out)
  rw[←HL.out] at hP
  refine⟨(aA1 h.box 0 (by simp)).1,(aA1 h.box 1 (by simp)).1,hT.trans (e2.trans ?_),h.old,HC2.out W _ (hideP p N) h.old hP (by rw[HZ.out];exact hz)⟩
  rw[HFL.out]
  rfl
 go_wp2_with fail
 go_loopw [11] (fun i wr=>∃k:Nat,k≤fl∧i=.int .i64 k∧Hid (HidAt X XB w7.heap.size g1 cap1 gF capF p.name N l C D (tth p.types 0).fields k wr)) (fun i _=>fl- (intOf i).toNat)
 case atStart=>exact⟨0,Nat.zero_le _,rfl,HH⟩
 case round=>
 obtain⟨k,hk,rfl,hHk⟩:=hrel
 obtain⟨wX,rfl⟩:∃x,x=wr:=⟨wr,rfl⟩
 have hlpi:(0:Int)<(l:Int):=by omega
 by_cases hlt:k<fl
 ·have hlti:(k:Int)<(fl:Int):=by omega
  obtain⟨u0,u1,u2,uv,u3,u4⟩:=HHC.out wX k hHk.out hlt
  have hHd:=aA0 (hHk.out.below (Below.refl _ _).drew)
  obtain⟨v0,v1,v2,vv,v3,v4⟩:=HHC.out wX.drew k hHd.out hlt
  have v5:=HKN.out wX.drew hHd.out.old
  have hkni:(kk:Int)<(nk:Int):=by omega
  cases hq:((fth (tth p.types 0).fields k).name.toList==N.toList)
  ·have HN1:=aA0 (hHd.out.skip (by simpa using hq))
   generalize (fth (tth p.types 0).fields k).name=fnm at*
   go_wp2_with fail
   go_region_held3 (fun w'=>w'.cell? ⟨XB,1,none⟩=some (.slice (some ⟨g1,0,none⟩) l cap1)∧w'.cell? ⟨g1,2,none⟩=some (.slice (some ⟨gF,0,none⟩) fl capF)∧w'.cell? ⟨gF,k*8,none⟩=some (.string fnm)∧w'.cell? ⟨kb,ko+kk*5+1,none⟩=some (.string N)) (go_keep) (fail)
   all_goals
    go_wp2_with fail
    go_roundw
    case rel=>exact⟨k+1,by omega,by go_num,HN1⟩
    case measure=>simp[intOf];omega
  ·have HN1:=aA0 (hHd.out.hit (by rw[←HFL.out];exact hlt) (by simpa using hq))
   generalize (fth (tth p.types 0).fields k).name=fnm at*
   go_wp2_with fail
   go_region_held3 (fun w'=>w'.cell? ⟨XB,1,none⟩=some (.slice (some ⟨g1,0,none⟩) l cap1)∧w'.cell? ⟨g1,2,none⟩=some (.slice (some ⟨gF,0,none⟩) fl capF)∧w'.cell? ⟨gF,k*8,none⟩=some (.string fnm)∧w'.cell? ⟨kb,ko+kk*5+1,none⟩=some (.string N)) (go_keep) (fail)
   all_goals
    go_wp2_with fail
    go_roundw
    case rel=>exact⟨k+1,by omega,by go_num,HN1⟩
    case measure=>simp[intOf];omega
 have hlti:¬(k:Int)<(fl:Int):=by omega
 have hkf:k=fl:=by omega
 subst hkf
 obtain⟨u0,u1,u2,u3,HCX⟩:=HHE.out wX hHk.out
 have HCX:=aA0 HCX
 have HBZ:=aA0 (HB1.out.trans (u3.mono HB1.out.size))
 have hne0:(aCE (aBM F (hideP p N) ks) !=0)=true:=by simpa using HRK.out
 have hne1:=HRK.out
 generalize aCE (aBM F (hideP p N) ks)=cz at*
 go_wp2_with (
  go_at_call 32
  refine HCX.out.mono ?_
  rintro e w12 ⟨y,rfl,b12⟩
  have hfld:=aDM y (.int .i64 cz))
 go_ret
 exact⟨rfl,HBZ.out.trans (b12.mono HBZ.out.size)⟩
theorem hidden_walk(w:World)(cb n:Nat)(v:Value)(cb' m:Nat)(u:Value)(h:aHX w cb v n)(h':aHX w cb' u m)(hT:Tab w.heap.size w):
  Calls Tryz.prog 7 #[v,u] w fun e w'=>e=.returned (.bool true)∧Below w.heap.size w w':=by
 obtain⟨b,c,off,hu,-⟩:=h'
 by_cases hb:1048576<n∨1048576<m
 ·obtain⟨a,d,off,rfl,-⟩:=h
  exact hidden_great w _ u a b n m d c rfl hu hb
 ·subst hu
  exact hidden_small w cb n m c v b h (by omega) (by omega) hT
end Go.Proofs.YtokmgbidmnanpaaGreatDoor
