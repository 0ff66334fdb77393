import Derived.Test.YtokmgbidmnanpaaGreatDoorQ9
set_option linter.unusedSimpArgs false
set_option linter.unusedVariables false
namespace Go.Proofs.YtokmgbidmnanpaaGreatDoor
open Go.RowKit Go.Maps
def TN(w:World)(b len:Nat)(nm:ByteArray):Prop:=∃i,i<len∧w.cell? ⟨b,i*3,none⟩=some (.string nm)
theorem aR6{a b:ByteArray}:(a.toList==b.toList)=true↔a=b:=by
 constructor
 ·intro h
  have h1:a.toList=b.toList:=by simpa using h
  rw[ByteArray.toList_eq,ByteArray.toList_eq] at h1
  cases a;cases b;congr;exact Array.toList_inj.1 h1
 ·rintro rfl;simp
set_option maxHeartbeats 400000 in
theorem aMW(w:World)(σ:Sh)(B:Bd)(s nm:ByteArray)(b len cap:Nat)(hW:Wf w σ B)(hs:s.size≤12)(hb:σ b=some (52,cap))(hl:len≤cap)(hN:len≤1000000)(hnn:B.nn≤3)(hnf:B.nf≤1000000):
  Calls Tryz.prog 112 #[.agg #[.string s,.slice (some ⟨b,0,none⟩) len cap],.string nm] w fun e w'=>∃k:Int,e=.returned (.int .i64 k)∧-1≤k∧k<len∧(0≤k↔TN w b len nm)∧Below w.heap.size w w':=by
 obtain⟨ts,hlen,hP,hnm,-⟩:=hW.types (off:=0) (c':=cap) hb (by omega) hN hl hnn hnf s hs
 subst hlen
 refine(aCU _ w w.heap.size _ nm (by simpa using hP) (Nat.le_refl _)).mono fun e w' h=>?_
 obtain⟨he,hbl⟩:=h
 refine⟨_,he,?_,?_,?_,hbl⟩
 all_goals rcases aAB (fun i=>(tth ts i).name.toList==nm.toList) ts.length with⟨hx,hno⟩| ⟨g,hx,hg,hyes,-⟩
 all_goals simp only[hx]
 ·omega
 ·omega
 ·omega
 ·omega
 ·refine⟨fun h=>by omega,fun⟨i,hi,hc⟩=>?_⟩
  have h1:=hnm i hi
  rw[Nat.zero_add] at h1
  rw[h1] at hc
  simp only[Option.some.injEq,Value.string.injEq] at hc
  have h2:=hno i hi
  rw[hc] at h2
  simp at h2
 ·refine⟨fun _=>⟨g,hg,?_⟩,fun _=>by omega⟩
  have h1:=hnm g hg
  rw[Nat.zero_add] at h1
  rw[h1,aR6.1 hyes]
theorem aV0:(Tryz.prog.info? 52).map (fun i=>(i.zero,i.size,i.bytes))=some (some (.agg #[.string ByteArray.empty,.string ByteArray.empty,.slice none 0 0]),3,56):=by kernel_rfl
theorem aUW:(Tryz.prog.info? 54).map (fun i=>(i.zero,i.size,i.bytes))=some (some (.agg #[.string ByteArray.empty,.string ByteArray.empty,.bool false,.bool false,.bool false,.bool false,.bool false,.slice none 0 0]),8,64):=by kernel_rfl
theorem aC2(σ:Sh)(T:TypeId)(N:Nat):SlOk σ T N (.slice none 0 0):=⟨none,0,0,rfl,Nat.zero_le _,Nat.le_refl _,Nat.zero_le _,Or.inl ⟨rfl,rfl,rfl⟩⟩
theorem aTJ:aAF ByteArray.empty=false:=by simp[aAF,isT,ByteArray.toList_eq]
theorem aAE(σ:Sh)(B:Bd)(n o:ByteArray)(l m f h s:Bool)(nv:Value)(hn:n.size≤12)(ho:o.size≤12)(hv:SlOk σ 9 B.nn nv):∀j u,(#[.string n,.string o,.bool l,.bool m,.bool f,.bool h,.bool s,nv]:Array Value)[j]?=some u→aA7 σ B 54 j u:=fun j u hu=>by
 rcases j with _| _| _| _| _| _| _| _| j
 ·simp at hu;subst hu;simp[aA7,StOk];exact hn
 ·simp at hu;subst hu;simp[aA7,StOk];exact ho
 ·simp at hu;subst hu;simp[aA7,BoOk]
 ·simp at hu;subst hu;simp[aA7,BoOk]
 ·simp at hu;subst hu;simp[aA7,BoOk]
 ·simp at hu;subst hu;simp[aA7,BoOk]
 ·simp at hu;subst hu;simp[aA7,BoOk]
 ·simp at hu;subst hu;simpa[aA7] using hv
 ·simp at hu
theorem aD8(σ:Sh)(B:Bd)(n k:ByteArray)(fv:Value)(hn:n.size≤12)(hsc:B.st=true→aAF n=false)(hk:k.size≤12)(hv:SlOk σ 54 B.nf fv):∀j u,(#[.string n,.string k,fv]:Array Value)[j]?=some u→aA7 σ B 52 j u:=fun j u hu=>by
 rcases j with _| _| _| j
 ·simp at hu;subst hu;simp[aA7,NmOk];exact⟨hn,hsc⟩
 ·simp at hu;subst hu;simp[aA7,StOk];exact hk
 ·simp at hu;subst hu;simpa[aA7] using hv
 ·simp at hu
theorem aUR(σ:Sh)(B:Bd):∀j u,(Value.agg #[.string ByteArray.empty,.string ByteArray.empty,.slice none 0 0]).cells[j]?=some u→aA7 σ B 52 j u:=aD8 σ B _ _ _ (by decide) (fun _=>aTJ) (by decide) (aC2 _ _ _)
theorem aSK(σ:Sh)(B:Bd):∀j u,(Value.agg #[.string ByteArray.empty,.string ByteArray.empty,.bool false,.bool false,.bool false,.bool false,.bool false,.slice none 0 0]).cells[j]?=some u→aA7 σ B 54 j u:=aAE σ B _ _ _ _ _ _ _ _ (by decide) (by decide) (aC2 _ _ _)
theorem aFB{σ:Sh}{B:Bd}{T:TypeId}{cs:Array Value}(hz:cs.size=wide T)(h:∀j u,cs[j]?=some u→aA7 σ B T j u):∀k v,cs[k]?=some v→aA7 σ B T (k % wide T) v:=fun k v hv=>by
 have hk:=(Array.getElem?_eq_some_iff.1 hv).1
 rw[hz] at hk
 rw[Nat.mod_eq_of_lt hk]
 exact h k v hv
theorem aFQ{σ:Sh}{B:Bd}{T:TypeId}{cs:Array Value}(hz:cs.size=wide T)(h:∀j u,cs[j]?=some u→aA7 σ B T j u):∀k v,cs.toList[k]?=some v→aA7 σ B T (k % wide T) v:=fun k v hv=>aFB hz h k v (by simpa using hv)
theorem aB3{W:World}{N:Nat}{a b:Value}{T:TypeId}(h:W.heap[N]?=some (.cells #[a,b] T (0,0)))(v0 v1:Value):
  ((W.setCell ⟨N,0,none⟩ v0).setCell ⟨N,1,none⟩ v1).cell? ⟨N,0,none⟩=some v0∧((W.setCell ⟨N,0,none⟩ v0).setCell ⟨N,1,none⟩ v1).cell? ⟨N,1,none⟩=some v1:=by
 have h2:=aA9 (aA9 h 0 v0) 1 v1
 exact⟨(aA1 h2 0 (by simp)).1,(aA1 h2 1 (by simp)).1⟩
theorem aFJ(FW:World)(tmps:Array Value)(N:Nat)(v0 v1:Value)(h4:tmps.getD 4 undef=.pointer (some ⟨N,0,none⟩))
  (d0:FW.cell? ⟨N,0,none⟩=some v0) (d1:FW.cell? ⟨N,1,none⟩=some v1):
  (results Tryz.f133 tmps).run Tryz.prog FW=.ok (.agg #[v0,v1]) FW:=by
 simp only[Array.getD_eq_getD_getElem?] at h4
 simp[results,Tryz.results133,go_sem,h4,d0,d1]
theorem aUP{w w1:World}{c1 c2:Array Value}{T1 T2:TypeId}(hb:Below ((w.alloc (.cells c1 T1)).alloc (.cells c2 T2)).heap.size ((w.alloc (.cells c1 T1)).alloc (.cells c2 T2)) w1):
  w1.heap[w.heap.size]?=some (.cells c1 T1 (0,0))∧w1.heap[w.heap.size+1]?=some (.cells c2 T2 (0,0))∧w.heap.size+1<w1.heap.size∧Below w.heap.size w w1:=by
 have hz:=hb.size
 simp at hz
 refine⟨(hb.block _ (by simp;omega)).trans ?_,(hb.block _ (by simp)).trans (aA3 _ _ (by simp)),by omega,(aA5 w _ _).trans (hb.mono (by simp;omega))⟩
 rw[(aA2 _ _).block _ (by simp)]
 exact aA3 _ _ rfl
def aLZ(w:World)(σ:Sh)(B:Bd)(s nm:ByteArray)(b len:Nat)(e:Ending)(w':World):Prop:=
 ∃(σ':Sh) (b' len' cap':Nat),e=.returned (.agg #[.string s,.slice (some ⟨b',0,none⟩) len' cap'])∧Wf w' σ' B∧Ext σ σ'∧(∀x,x<w.heap.size→σ' x=σ x)∧Only (Hot σ) w w'∧len≤len'∧len'≤len+1∧len'≤cap'∧cap'≤maxLen∧σ' b'=some (52,cap')∧(∀x,TN w b len x→TN w' b' len' x)∧(aAF nm=false→TN w' b' len' nm)
theorem aPR{w W3 wP Wz:World}{σ σ':Sh}{B:Bd}{s nm:ByteArray}{b len cap g cap' FB:Nat}(hW:Wf w σ B)(hb:σ b=some (52,cap))(bw:Below w.heap.size w W3)(hF:w.heap.size+1<FB)(hF3:FB<W3.heap.size)
  (q1:Wf wP σ' B) (q2:σ' g=some (52,cap')) (q3:len+1≤cap') (q4:cap'≤maxLen) (q5:Ext (σ.add FB 54 1) σ') (q6:∀x,x<W3.heap.size→σ' x=(σ.add FB 54 1) x) (q7:W3.grownBy wP (some b))
  (q8:∀j,j<len*3→wP.cell? ⟨g,j,none⟩=W3.cell? ⟨b,j,none⟩) (q9:wP.cell? ⟨g,len*3+0,none⟩=some (.string nm))
  (hz:∀x,x≠w.heap.size→x≠w.heap.size+1→Wz.heap[x]?=wP.heap[x]?) (hzs:Wz.heap.size=wP.heap.size) (ho:Wz.os=wP.os) (ht:Wz.tape=wP.tape) (hu:Wz.output=wP.output):
  aLZ w σ B s nm b len (.returned (.agg #[.string s,.slice (some ⟨g,0,none⟩) (len+1) cap'])) Wz:=by
 have hbl:=hW.lt hb
 have hs3:=bw.size
 have hsg:∀x,x<w.heap.size→σ' x=σ x:=fun x hx=>by rw[q6 x (by omega),Sh.add_ne _ _ _ _ _ (by omega)]
 have n0:σ' w.heap.size=none:=by rw[q6 _ (by omega),Sh.add_ne _ _ _ _ _ (by omega)];exact hW.fresh (Nat.le_refl _)
 have n1:σ' (w.heap.size+1)=none:=by rw[q6 _ (by omega),Sh.add_ne _ _ _ _ _ (by omega)];exact hW.fresh (by omega)
 have hk:∀x T n,σ' x=some (T,n)→Wz.heap[x]?=wP.heap[x]?:=fun x T n hx=>hz x (fun e=>by subst e;rw[n0] at hx;cases hx) (fun e=>by subst e;rw[n1] at hx;cases hx)
 have hgc:∀j,Wz.cell? ⟨g,j,none⟩=wP.cell? ⟨g,j,none⟩:=fun j=>World.cell?_of_block (a:=⟨g,j,none⟩) (hk _ _ _ q2)
 have hbc:∀j,W3.cell? ⟨b,j,none⟩=w.cell? ⟨b,j,none⟩:=fun j=>bw.cell (p:=⟨b,j,none⟩) hbl
 refine⟨σ',g,len+1,cap',rfl,q1.keep hk,(Sh.add_ext (hW.fresh (by omega))).trans q5,hsg,⟨by rw[ho,q7.os,bw.os],by rw[ht,q7.tape,bw.tape],by rw[hu,q7.output,bw.output],by have:=q7.size;omega,fun x hx hn=>?_⟩,by omega,by omega,q3,q4,q2,fun x hx=>?_,fun _=>⟨len,by omega,?_⟩⟩
 ·rw[hz x (by omega) (by omega),q7.block x (by omega) (fun e=>hn ⟨_,_,by cases e;exact hb,by decide⟩),bw.block x hx]
 ·obtain⟨i,hi,hc⟩:=hx
  exact⟨i,by omega,by rw[hgc,q8 _ (by omega),hbc];exact hc⟩
 ·rw[hgc];exact q9
set_option maxRecDepth 20000 in
set_option maxHeartbeats 1600000 in
theorem aJV(w:World)(σ:Sh)(B:Bd)(s nm:ByteArray)(b len cap:Nat)(hW:Wf w σ B)(hs:s.size≤12)(hb:σ b=some (52,cap))(hl:len≤cap)(hcm:cap≤maxLen)(hN:len≤100000)(hnm:nm.size≤12)(hnn:B.nn≤3)(hnf:B.nf≤1000000)(hnf1:1≤B.nf):
  Calls Tryz.prog 133 #[.agg #[.string s,.slice (some ⟨b,0,none⟩) len cap],.string nm] w (aLZ w σ B s nm b len):=by
 have hS:=aAS nm
 have HT:Hid (∀W,Below w.heap.size w W→Calls Tryz.prog 112 #[.agg #[.string s,.slice (some ⟨b,0,none⟩) len cap],.string nm] W fun e w'=>∃k:Int,e=.returned (.int .i64 k)∧-1≤k∧k<len∧(0≤k↔TN w b len nm)∧Below W.heap.size W w'):=aA0 fun W hWb=>(aMW W σ B s nm b len cap (hW.below hWb) hs hb hl (by omega) hnn hnf).mono fun e w' ⟨k,h1,h2,h3,h4,h5⟩=>⟨k,h1,h2,h3,h4.trans (by
   have:∀i,W.cell? ⟨b,i*3,none⟩=w.cell? ⟨b,i*3,none⟩:=fun i=>hWb.cell (p:=⟨b,i*3,none⟩) (hW.lt hb)
   simp only[TN,this]),h5⟩
 have HSTAY:Hid (∀W,Below w.heap.size w W→(aAF nm=false→TN w b len nm)→aLZ w σ B s nm b len (.returned (.agg #[.string s,.slice (some ⟨b,0,none⟩) len cap])) W):=aA0 fun W hWb htn=>by
  have hc:∀i,W.cell? ⟨b,i*3,none⟩=w.cell? ⟨b,i*3,none⟩:=fun i=>hWb.cell (p:=⟨b,i*3,none⟩) (hW.lt hb)
  exact⟨σ,b,len,cap,rfl,hW.below hWb,Ext.refl _,fun _ _=>rfl,Only.of_below _ hWb,Nat.le_refl _,by omega,hl,hcm,hb,fun x hx=>by simpa only[TN,hc] using hx,fun h=>by simpa only[TN,hc] using htn h⟩
 cases hsc:aAF nm
 case true=>
  rw[hsc] at hS
  go_enter Tryz.func133,Tryz.ntmps133
  go_wp2_with (go_at_call 109;refine(hS _).mono ?_;rintro e w' ⟨rfl,rfl⟩)
  refine bodyPost_ret (aFJ _ _ (w.heap.size+1) (.string s) (.slice (some ⟨b,0,none⟩) len cap) rfl (by simp) (by simp)) rfl ?_
  exact HSTAY.out _ (aA5 _ _ _) (fun h=>by rw[hsc] at h;cases h)
 rw[hsc] at hS
 go_enter Tryz.func133,Tryz.ntmps133
 go_wp2_with (go_at_call 109;refine(hS _).mono ?_;rintro e w' ⟨rfl,rfl⟩)
 refine(HT.out _ (aA5 _ _ _)).mono ?_
 rintro e w1 ⟨k,rfl,hk1,hk2,hk3,hb1⟩
 obtain⟨pb,rb,hz1,bw⟩:=aUP hb1
 clear hb1
 obtain⟨p0,-⟩:=aA1 pb 0 (by simp)
 obtain⟨p1,pf1⟩:=aA1 pb 1 (by simp)
 obtain⟨r0,rf0⟩:=aA1 rb 0 (by simp)
 obtain⟨r1,rf1⟩:=aA1 rb 1 (by simp)
 simp only[List.getElem_toArray,List.getElem_cons_zero,List.getElem_cons_succ] at p0 p1 r0 r1
 have hlt1:w.heap.size<w1.heap.size:=by omega
 have A2:∀o o',((w1.alloc o).alloc o').cell? ⟨w.heap.size,1,none⟩=some (.slice (some ⟨b,0,none⟩) len cap):=fun o o'=>((aA5 w1 o o').cell (p:=⟨w.heap.size,1,none⟩) hlt1).trans p1
 have A3:∀o o' o'',(((w1.alloc o).alloc o').alloc o'').cell? ⟨w.heap.size,1,none⟩=some (.slice (some ⟨b,0,none⟩) len cap):=fun o o' o''=>((aA2 _ _).cell (p:=⟨w.heap.size,1,none⟩) (by simp;omega)).trans (A2 o o')
 have B3:∀o o' o'',Below w.heap.size w (((w1.alloc o).alloc o').alloc o''):=fun o o' o''=>(bw.trans ((aA5 w1 o o').mono (by omega))).alloc (by simp;omega) o''
 obtain⟨iT,hiT,hzT,hsT,hbT⟩:=info_parts aV0
 have HEND:Hid (∀W3 wP g cap' σ' FB,Below w.heap.size w W3→w1.heap.size≤FB→FB<W3.heap.size→W3.heap[w.heap.size]?=w1.heap[w.heap.size]?→W3.heap[w.heap.size+1]?=w1.heap[w.heap.size+1]?→Wf wP σ' B→σ' g=some (52,cap')→len+1≤cap'→cap'≤maxLen→Ext (σ.add FB 54 1) σ'→(∀x,x<W3.heap.size→σ' x=(σ.add FB 54 1) x)→W3.grownBy wP (some b)→
   (∀j,j<len*3→wP.cell? ⟨g,j,none⟩=W3.cell? ⟨b,j,none⟩)→wP.cell? ⟨g,len*3+0,none⟩=some (.string nm)→
   aLZ w σ B s nm b len (.returned (.agg #[.string s,.slice (some ⟨g,0,none⟩) (len+1) cap'])) (((wP.setCell ⟨w.heap.size,1,none⟩ (.slice (some ⟨g,0,none⟩) (len+1) cap')).setCell ⟨w.heap.size+1,0,none⟩ (.string s)).setCell ⟨w.heap.size+1,1,none⟩ (.slice (some ⟨g,0,none⟩) (len+1) cap'))∧
   wP.heap[w.heap.size]?=some (.cells #[.string s,.slice (some ⟨b,0,none⟩) len cap] 43 (0,0))∧wP.heap[w.heap.size+1]?=some (.cells #[.string ⟨#[]⟩,.slice none 0 0] 43 (0,0))∧w.heap.size+1<wP.heap.size):=aA0 fun W3 wP g cap' σ' FB b3 hF hF3 e0 e1 q1 q2 q3 q4 q5 q6 q7 q8 q9=>by
  have hbl:=hW.lt hb
  have z3:=b3.size
  refine⟨aPR hW hb b3 (by omega) hF3 q1 q2 q3 q4 q5 q6 q7 q8 q9 (fun x h0 h1=>?_) (by simp[aAZ]) rfl rfl rfl,?_,?_,?_⟩
  ·rw[Below.heap_setCell _ _ _ _ h1,Below.heap_setCell _ _ _ _ h1,Below.heap_setCell _ _ _ _ h0]
  ·rw[q7.block _ (by omega) (by intro e;cases e;omega),e0];exact pb
  ·rw[q7.block _ (by omega) (by intro e;cases e;omega),e1];exact rb
  ·have:=q7.size;omega
 by_cases htn:TN w b len nm
 ·have hk4:=hk3.2 htn
  clear A2 A3 HEND
  go_wp2_with fail
  have hd:=aB3 rb (.string s) (.slice (some ⟨b,0,none⟩) len cap)
  refine bodyPost_ret (aFJ _ _ (w.heap.size+1) (.string s) (.slice (some ⟨b,0,none⟩) len cap) rfl hd.1 hd.2) rfl ?_
  ·exact HSTAY.out _ ((bw.setCell (by show w.heap.size≤w.heap.size+1;omega) _).setCell (by show w.heap.size≤w.heap.size+1;omega) _) (fun _=>htn)
 have hk4:k<0:=by
  have h:¬0≤k:=fun h=>htn (hk3.1 h)
  omega
 cases hno:(nm.toList==[110,111,116,101])
 case true=>
  have WF:∀o o',Wf (((w1.alloc o).alloc (.cells #[.string ⟨#[98,111,100,121]⟩,.string ⟨#[116,101,120,116]⟩,.bool false,.bool true,.bool false,.bool false,.bool true,.slice none 0 0] 54)).alloc o') (σ.add (w1.heap.size+1) 54 1) B∧Below w.heap.size w (((w1.alloc o).alloc (.cells #[.string ⟨#[98,111,100,121]⟩,.string ⟨#[116,101,120,116]⟩,.bool false,.bool true,.bool false,.bool false,.bool true,.slice none 0 0] 54)).alloc o')∧(((w1.alloc o).alloc (.cells #[.string ⟨#[98,111,100,121]⟩,.string ⟨#[116,101,120,116]⟩,.bool false,.bool true,.bool false,.bool false,.bool true,.slice none 0 0] 54)).alloc o').heap[w.heap.size]?=w1.heap[w.heap.size]?∧(((w1.alloc o).alloc (.cells #[.string ⟨#[98,111,100,121]⟩,.string ⟨#[116,101,120,116]⟩,.bool false,.bool true,.bool false,.bool false,.bool true,.slice none 0 0] 54)).alloc o').heap[w.heap.size+1]?=w1.heap[w.heap.size+1]?:=fun o o'=>by
   have hB:Below w1.heap.size w1 (((w1.alloc o).alloc (.cells #[.string ⟨#[98,111,100,121]⟩,.string ⟨#[116,101,120,116]⟩,.bool false,.bool true,.bool false,.bool false,.bool true,.slice none 0 0] 54)).alloc o'):=(aA5 w1 _ _).alloc (by simp;omega) _
   refine⟨(hW.below (bw.trans (hB.mono (by omega)))).add (hW.fresh (by omega)) ?_ rfl (aFB rfl (aAE _ _ ⟨#[98,111,100,121]⟩ ⟨#[116,101,120,116]⟩ false true false false true _ (by decide) (by decide) (aC2 _ _ _))),bw.trans (hB.mono (by omega)),hB.block _ (by omega),hB.block _ (by omega)⟩
   rw[(aA2 _ _).block _ (by simp)]
   exact aA3 _ _ (by simp)
  have TOK:=aD8 (σ.add (w1.heap.size+1) 54 1) B nm ⟨#[]⟩ (.slice (some ⟨w1.heap.size+1,0,none⟩) 1 1) hnm (fun _=>hsc) (by decide) ⟨_,1,1,rfl,hnf1,by omega,by simp[maxLen],Or.inr ⟨_,rfl,Sh.add_self _ _ _ _⟩⟩
  have HWF:=aA0 WF
  have HTOK:=aA0 TOK
  clear WF TOK A3
  go_wp2_with (
   at_builtin
   (refine aF4 (HWF.out _ _).1 rfl _ _ 41 rfl 52 iT _ 56 Tryz.underlying41 hiT hzT hsT hbT rfl (aUR _ _) (some ⟨b,0,none⟩) len cap rfl hl hcm (Or.inr ⟨b,rfl,(Sh.add_ext (hW.fresh (by omega))) _ _ _ hb⟩) ⟨w1.heap.size+1+1,0,none⟩ 1 1 [.string nm,.string ⟨#[]⟩,.slice (some ⟨w1.heap.size+1,0,none⟩) 1 1] rfl rfl (World.news_of_block (aA3 _ _ (by simp))) (by intro u hu;simp at hu;rcases hu with rfl| rfl| rfl<;>rfl) (aFQ (T:=52) (cs:=#[.string nm,.string ⟨#[]⟩,.slice (some ⟨w1.heap.size+1,0,none⟩) 1 1]) rfl HTOK.out) (by omega) (by unfold maxLen;omega) (by omega) ?_)
   intro g cap' wP σ' q1 q2 q3 q4 q5 q6 q7 q8 q9
   (obtain⟨hE,x0,x1,hzP⟩:=HEND.out _ wP g cap' σ' _ (HWF.out _ _).2.1 (by omega) (by simp) (HWF.out _ _).2.2.1 (HWF.out _ _).2.2.2 q1 q2 q3 q4 q5 q6 q7 (q8 b rfl) (q9 0 _ rfl))
   have HE:=aA0 hE
   clear hE q1 q2 q5 q6 q7 q8 q9
   obtain⟨y0,-⟩:=aA1 x0 0 (by simp)
   obtain⟨y1,yf1⟩:=aA1 x0 1 (by simp)
   obtain⟨u0,uf0⟩:=aA1 x1 0 (by simp)
   obtain⟨u1,uf1⟩:=aA1 x1 1 (by simp)
   simp only[List.getElem_toArray,List.getElem_cons_zero,List.getElem_cons_succ] at y0 y1 u0 u1)
  have hd:=aB3 ((Below.heap_setCell wP ⟨w.heap.size,1,none⟩ (.slice (some ⟨g,0,none⟩) (len+1) cap') (w.heap.size+1) (by show w.heap.size+1≠w.heap.size;omega)).trans x1) (.string s) (.slice (some ⟨g,0,none⟩) (len+1) cap')
  exact bodyPost_ret (aFJ _ _ (w.heap.size+1) (.string s) (.slice (some ⟨g,0,none⟩) (len+1) cap') rfl hd.1 hd.2) rfl HE.out
 case false=>
  have WF:∀o o1 o',Wf ((((w1.alloc o).alloc o1).alloc (.cells #[.string ⟨#[105,100]⟩,.string ⟨#[105,110,116]⟩,.bool false,.bool true,.bool false,.bool false,.bool false,.slice none 0 0] 54)).alloc o') (σ.add (w1.heap.size+1+1) 54 1) B∧Below w.heap.size w ((((w1.alloc o).alloc o1).alloc (.cells #[.string ⟨#[105,100]⟩,.string ⟨#[105,110,116]⟩,.bool false,.bool true,.bool false,.bool false,.bool false,.slice none 0 0] 54)).alloc o')∧((((w1.alloc o).alloc o1).alloc (.cells #[.string ⟨#[105,100]⟩,.string ⟨#[105,110,116]⟩,.bool false,.bool true,.bool false,.bool false,.bool false,.slice none 0 0] 54)).alloc o').heap[w.heap.size]?=w1.heap[w.heap.size]?∧((((w1.alloc o).alloc o1).alloc (.cells #[.string ⟨#[105,100]⟩,.string ⟨#[105,110,116]⟩,.bool false,.bool true,.bool false,.bool false,.bool false,.slice none 0 0] 54)).alloc o').heap[w.heap.size+1]?=w1.heap[w.heap.size+1]?:=fun o o1 o'=>by
   have hB:Below w1.heap.size w1 ((((w1.alloc o).alloc o1).alloc (.cells #[.string ⟨#[105,100]⟩,.string ⟨#[105,110,116]⟩,.bool false,.bool true,.bool false,.bool false,.bool false,.slice none 0 0] 54)).alloc o'):=((aA5 w1 _ _).alloc (by simp;omega) _).alloc (by simp;omega) _
   refine⟨(hW.below (bw.trans (hB.mono (by omega)))).add (hW.fresh (by omega)) ?_ rfl (aFB rfl (aAE _ _ ⟨#[105,100]⟩ ⟨#[105,110,116]⟩ false true false false false _ (by decide) (by decide) (aC2 _ _ _))),bw.trans (hB.mono (by omega)),hB.block _ (by omega),hB.block _ (by omega)⟩
   rw[(aA2 _ _).block _ (by simp)]
   exact aA3 _ _ (by simp)
  have TOK:=aD8 (σ.add (w1.heap.size+1+1) 54 1) B nm ⟨#[105,100]⟩ (.slice (some ⟨w1.heap.size+1+1,0,none⟩) 1 1) hnm (fun _=>hsc) (by decide) ⟨_,1,1,rfl,hnf1,by omega,by simp[maxLen],Or.inr ⟨_,rfl,Sh.add_self _ _ _ _⟩⟩
  have HWF:=aA0 WF
  have HTOK:=aA0 TOK
  clear WF TOK A2
  go_wp2_with (
   at_builtin
   (refine aF4 (HWF.out _ _ _).1 rfl _ _ 41 rfl 52 iT _ 56 Tryz.underlying41 hiT hzT hsT hbT rfl (aUR _ _) (some ⟨b,0,none⟩) len cap rfl hl hcm (Or.inr ⟨b,rfl,(Sh.add_ext (hW.fresh (by omega))) _ _ _ hb⟩) ⟨w1.heap.size+1+1+1,0,none⟩ 1 1 [.string nm,.string ⟨#[105,100]⟩,.slice (some ⟨w1.heap.size+1+1,0,none⟩) 1 1] rfl rfl (World.news_of_block (aA3 _ _ (by simp))) (by intro u hu;simp at hu;rcases hu with rfl| rfl| rfl<;>rfl) (aFQ (T:=52) (cs:=#[.string nm,.string ⟨#[105,100]⟩,.slice (some ⟨w1.heap.size+1+1,0,none⟩) 1 1]) rfl HTOK.out) (by omega) (by unfold maxLen;omega) (by omega) ?_)
   intro g cap' wP σ' q1 q2 q3 q4 q5 q6 q7 q8 q9
   (obtain⟨hE,x0,x1,hzP⟩:=HEND.out _ wP g cap' σ' _ (HWF.out _ _ _).2.1 (by omega) (by simp) (HWF.out _ _ _).2.2.1 (HWF.out _ _ _).2.2.2 q1 q2 q3 q4 q5 q6 q7 (q8 b rfl) (q9 0 _ rfl))
   have HE:=aA0 hE
   clear hE q1 q2 q5 q6 q7 q8 q9
   obtain⟨y0,-⟩:=aA1 x0 0 (by simp)
   obtain⟨y1,yf1⟩:=aA1 x0 1 (by simp)
   obtain⟨u0,uf0⟩:=aA1 x1 0 (by simp)
   obtain⟨u1,uf1⟩:=aA1 x1 1 (by simp)
   simp only[List.getElem_toArray,List.getElem_cons_zero,List.getElem_cons_succ] at y0 y1 u0 u1)
  have hd:=aB3 ((Below.heap_setCell wP ⟨w.heap.size,1,none⟩ (.slice (some ⟨g,0,none⟩) (len+1) cap') (w.heap.size+1) (by show w.heap.size+1≠w.heap.size;omega)).trans x1) (.string s) (.slice (some ⟨g,0,none⟩) (len+1) cap')
  exact bodyPost_ret (aFJ _ _ (w.heap.size+1) (.string s) (.slice (some ⟨g,0,none⟩) (len+1) cap') rfl hd.1 hd.2) rfl HE.out
end Go.Proofs.YtokmgbidmnanpaaGreatDoor
