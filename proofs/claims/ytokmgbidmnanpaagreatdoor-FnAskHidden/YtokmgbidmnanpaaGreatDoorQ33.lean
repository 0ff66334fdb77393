import Derived.Test.YtokmgbidmnanpaaGreatDoorQ1
import Derived.Test.YtokmgbidmnanpaaGreatDoorQ29
import Derived.Test.YtokmgbidmnanpaaGreatDoorQ32
import Derived.Deep.AppendLies
set_option linter.unusedSimpArgs false
set_option linter.unusedVariables false
namespace Go.Proofs.YtokmgbidmnanpaaGreatDoor
open Go.RowKit Go.Shelf Go.Maps
attribute [local go_sem] Oper.semAt_some
set_option maxHeartbeats 400000 in
theorem aIK(w:World)(c0 c1:Value)(ka:Option Addr)(kl kc:Nat):
  Calls Tryz.prog 64 #[.agg #[c0,c1],.slice ka kl kc] w fun e w'=>e=.returned (.func (.func 102) #[] #[.pointer (some ⟨w.heap.size+1,0,none⟩),.pointer (some ⟨w.heap.size,0,none⟩)])∧w'=(w.alloc (.cells #[c0,c1] 43)).alloc (.cells #[.slice ka kl kc] 23):=by
 go_enter Tryz.func64,Tryz.ntmps64
 go_wp2_with fail
 go_ret
 exact⟨rfl,rfl⟩
theorem aES{w:World}{t:Addr}{old:Value}(h:w.cell? t=some old):t.block<w.heap.size:=by
 rcases Nat.lt_or_ge t.block w.heap.size with h1| h1
 ·exact h1
 ·simp[World.cell?,Array.getElem?_eq_none h1] at h
theorem aPO{l l2 m m':Nat}{P:Program}{f:FuncId}{tmps:Array Value}{assign body:Code}{w:World}{R:Ending→World→Prop}(h:RoundIn Fence.wide m P l f tmps assign body w R):RoundIn (Fence.wide.inRound l2) m' P l f tmps assign body w R:=⟨trivial,fun c cs _=>h.2 c cs (room_wide _)⟩
set_option maxRecDepth 20000 in
set_option maxHeartbeats 1600000 in
theorem aHT(p:Pt)(c0 c1:Value)(f:Nat)(ks:List Se)(l:Nat)(J:List (Way× Se× ByteArray)→(Nat→Prop)→World→Prop)(Jx:World→Prop)(lo:Nat)(n:Nat)(O:Nat→Prop)(W:World)(ka:Option Addr)(kc sb pb:Nat)
  (hJl:∀pre O,aCI W.heap.size O (J pre O)) (hXs:aK8 W.heap.size Jx) (hJc:∀pre O A,J pre O A→aDX O A)
  (hY:∀(n:Nat) pre O x ar A,J pre O A→pre++[x]<+:askF p [qry] (aAU f [] ks ks.length)→ArgA lo O p x ar A→YieldAt Fence.wide n Tryz.prog l ar A fun e B=>∃go,e=.returned (.bool go)∧Told J Jx O pre x A go B∧KeepsFrom W.heap.size A B)
  (hf:FitS f ks) (hsm:aEJ f ks) (hR:aAA W (·<lo) ks ka) (hP:PRep W (·<lo) p (.agg #[c0,c1])) (hlo:lo≤W.heap.size) (hbd:f≤1000000000) (h5:∀x∈ aAU f [] ks ks.length,x.1.length≤5) (hJ:J [] O W) (hO:∀b,O b→lo≤b∧b≠pb)
  (hs:W.cell? ⟨sb,0,none⟩=some (.slice ka ks.length kc)) (hp0:W.cell? ⟨pb,0,none⟩=some c0) (hp1:W.cell? ⟨pb,1,none⟩=some c1):
  CallsIn Fence.wide n Tryz.prog 102 #[.func (.yield l) #[] #[],.pointer (some ⟨sb,0,none⟩),.pointer (some ⟨pb,0,none⟩)] W fun e W'=>(∃v,e=.returned v)∧((∃O',J (askF p [qry] (aAU f [] ks ks.length)) O' W')∨Jx W'):=by
 obtain⟨XS,hXS⟩:∃XS,XS=aAU f [] ks ks.length:=⟨_,rfl⟩
 rw[←hXS] at hY h5 ⊢
 have HXS:=aA0 hXS
 clear hXS
 have HB:∀pre x,pre++[x]<+:XS→x.1.length≤(tyF p [qry] pre).length∧1≤x.1.length:=fun pre x h=>by
  rw[HXS.out] at h
  exact aII p f [] ks _ [qry] pre x (Nat.le_refl _) (by simp) h
 obtain⟨i0,hi,hz0,hz1,hz2⟩:=info_parts aJW
 refine callsIn_wide.2 ((callsIn_wide (n:=3)).1 ?_)
 refine callsIn_of_wp_marks Tryz.func102 rfl trivial ?_ rfl
 simp only[Tryz.ntmps102,List.size_toArray,List.length_cons,List.length_nil,Nat.reduceAdd,Nat.reduceSub,Array.replicate_succ,Array.replicate_zero,List.push_toArray,List.append_toArray,List.nil_append,List.cons_append]
 have hsA:∀o1 o2 o3,(((W.alloc o1).alloc o2).alloc o3).cell? ⟨sb,0,none⟩=some (.slice ka ks.length kc):=fun o1 o2 o3=>by
  have hl:=aES hs
  exact((((aA5 W o1 o2).trans ((aA2 _ o3).mono (by simp;omega))).cell (p:=⟨sb,0,none⟩) hl)).trans hs
 gi_wp2_with (refine⟨trivial,?_⟩;gi_at_call 42;refine(callsIn_wide.2 (aKN _ ka ks.length kc)).mono ?_;rintro e w' ⟨rfl,rfl⟩)
 obtain⟨Y,hY0⟩:∃Y,Y=(((W.alloc (.cells #[.func (.yield l) #[] #[]] 147)).alloc (.cells #[.string ⟨#[113,117,101,114,121]⟩] 9)).alloc (.cells #[.slice (some ⟨W.heap.size+1,0,none⟩) 1 1] 29)).alloc (.cells #[.slice ka ks.length kc] 23):=⟨_,rfl⟩
 have zY:Y.heap.size=W.heap.size+4:=by rw[hY0];simp
 have bY:Below W.heap.size W Y:=by rw[hY0];exact((((Below.refl _ _).alloc (Nat.le_refl _) _).alloc (by simp) _).alloc (by simp;omega) _).alloc (by simp;omega) _
 have yY:Y.heap[W.heap.size]?=some (.cells #[.func (.yield l) #[] #[]] 147 (0,0)):=by
  rw[hY0,(aA2 _ _).block _ (by simp;omega),(aA2 _ _).block _ (by simp;omega),(aA2 _ _).block _ (by simp)]
  exact aA3 _ _ rfl
 have lY:Y.heap[W.heap.size+1]?=some (.cells #[.string ⟨#[113,117,101,114,121]⟩] 9 (0,0)):=by
  rw[hY0,(aA2 _ _).block _ (by simp),(aA2 _ _).block _ (by simp)]
  exact aA3 _ _ (by simp)
 have tY:Y.heap[W.heap.size+1+1]?=some (.cells #[.slice (some ⟨W.heap.size+1,0,none⟩) 1 1] 29 (0,0)):=by
  rw[hY0,(aA2 _ _).block _ (by simp)]
  exact aA3 _ _ (by simp)
 have sY:Y.heap[W.heap.size+1+1+1]?=some (.cells #[.slice ka ks.length kc] 23 (0,0)):=by
  rw[hY0]
  exact aA3 _ _ (by simp)
 rw[←hY0]
 clear hY0 hsA
 have hpbl:pb<W.heap.size:=aES hp0
 have hsbl:sb<W.heap.size:=aES hs
 refine aG8 (w:=Y) rfl (by omega) (gf:=79) (lb:=#[.pointer (some ⟨W.heap.size+1+1+1,0,none⟩)]) rfl trivial (enters_of Tryz.func79 (by kernel_rfl) rfl)
  XS (fun pre O2 x ar A=>ArgN lo O2 x ar A∧pre++[x]<+:XS) ?ps (fun pre O2 A=>∃O tv,IAs p c0 c1 lo W.heap.size J l pb W.heap.size (W.heap.size+1+1) pre O2 O tv A) ?looks ?cells Jx ?xstill
  (fun b=>O b∨b=W.heap.size+1+1∨b=W.heap.size+1) ?start ?seq
  (fun pre O2 x ar a' A=>∃(g wc:Nat) (sa:Option Addr) (sc sx:Nat),pre++[x]<+:XS∧a'={ tmps:=#[.func (.yield l) #[] #[],.pointer (some ⟨sb,0,none⟩),.pointer (some ⟨pb,0,none⟩),.pointer (some ⟨W.heap.size,0,none⟩),.pointer (some ⟨W.heap.size+1+1,0,none⟩),.slice (some ⟨g,0,none⟩) x.1.length wc,.pointer (some ⟨sx,0,none⟩),undef,undef,.slice (some ⟨W.heap.size+1,0,none⟩) 1 1,.slice ka ks.length kc,.func (.func 79) #[] #[.pointer (some ⟨W.heap.size+1+1+1,0,none⟩)],.slice (some ⟨g,0,none⟩) x.1.length wc,.agg #[.string x.2.al,.string x.2.name,.bool x.2.one,.int .i64 x.2.id,.slice sa x.2.kids.length sc],undef,undef,undef,undef,undef,undef,undef,undef,undef,undef,undef,undef,undef,undef,undef,undef,undef,undef,undef,undef,undef,undef,undef],defers:=[] }∧x.1.length≤wc∧Strs A (·<A.heap.size) x.1 (some ⟨g,0,none⟩)∧(∀a∈ x.1,a.size≤1048576)∧x.1≠[]∧(lo≤g∧¬O2 g)∧(∀j,A.frozen? ⟨g,j,none⟩=false)∧
   A.heap[sx]?=some (.cells #[.string x.2.al,.string x.2.name,.bool x.2.one,.int .i64 x.2.id,.slice sa x.2.kids.length sc] 56 (0,0))) ?astill ?assign ?body ?done ?stop
 case ps=>
  rintro pre O2 x ar A ⟨⟨⟨wa,wc,sa,sc,rfl,-⟩,-⟩,-⟩
  rfl
 case looks=>exact fun pre O2=>IAs.looks hJl (by omega) (by omega) (by omega) hpbl hlo (by omega) pre O2
 case cells=>
  rintro pre O2 A ⟨O,tv,h⟩
  exact h.cells hJc
 case xstill=>exact fun A l' o o' h hl h1 h2=>hXs A l' o o' h (by omega) h1 h2
 case start=>
  refine⟨O,.slice (some ⟨W.heap.size+1,0,none⟩) 1 1,(hJl _ _).grows _ _ hJ bY,tY,⟨rfl,Or.inr ⟨W.heap.size+1,1,_,rfl,by omega,lY,by simp[tyF],by unfold maxLen;omega,rfl,rfl⟩⟩,⟨by simp[Value.ownBlock],by simp[Value.ownBlock]⟩,yY,⟨(bY.cell (p:=⟨pb,0,none⟩) hpbl).trans hp0,(bY.cell (p:=⟨pb,1,none⟩) hpbl).trans hp1⟩,hP.under (bY.mono hlo),fun b=>by simp[Value.ownBlock,eq_comm],fun b hb=>?_,by simp[tyF]⟩
  have hb1:=(hJc _ _ _ hJ).lt b hb
  have hb2:=hO b hb
  exact⟨by omega,by omega,hb2.2,(fun e=>by simp[Value.ownBlock] at e;omega),hb2.1⟩
 case seq=>
  intro l2 J2 Jx2 W2 hb hJl2 hXs2 hJc2 hy h0
  have hbW:=bY.trans (hb.mono (by omega))
  have:=aJ0 f ks l2 J2 Jx2 lo (fun pre O=>(hJl2 pre O).grows) (fun pre O A h=>(hJc2 pre O A h).lt) (fun n pre O x ar A hJ hp hA=>by
   obtain⟨fn,tmps,assign,bd,h1,h2⟩:=hy pre O x ar A hJ ⟨hA,by rw[HXS.out];exact hp⟩
   exact aEC (n:=0) ⟨fn,tmps,assign,bd,h1,⟨h2.1,fun c cs _=>(h2.mono fun e w' ⟨go,he,ht,_⟩=>⟨go,he,ht⟩).2 c cs (room_wide _)⟩⟩) (3- 1) _ W2 ka kc (W.heap.size+1+1+1) hf hsm (hR.under (hbW.mono hlo)) (Nat.le_trans hlo hbW.size) hbd h0 (by
    rintro b (hb2| rfl| rfl)
    ·exact(hO b hb2).1
    ·omega
    ·omega) ((hb.cell (p:=⟨W.heap.size+1+1+1,0,none⟩) (by show W.heap.size+1+1+1<_;omega)).trans (aA1 sY 0 (by simp)).1)
  rw[←HXS.out] at this
  exact this
 case astill=>
  rintro pre O2 x ar a' A l' o o' ⟨g,wc,sa,sc,sx,h1,h2,h3,h4,h5,h6,h7,h8,h9⟩ hl ho1 ho2
  refine⟨g,wc,sa,sc,sx,h1,h2,h3,aKY ho1 ho2 h4,h5,h6,h7,fun j=>?_,aCG ho1 ho2 h9⟩
  obtain⟨b,off,e,-,hc⟩:=h4.1 h6
  simp only[Option.some.injEq,Addr.mk.injEq,and_true] at e
  obtain⟨rfl,rfl⟩:=e
  obtain⟨ob,k1,k2⟩:=aDT (hc 0 (List.length_pos_iff.2 h6))
  have hne:g≠l':=fun e=>by rw[e,ho1] at k1;cases k1;rw[ho2] at k2;cases k2
  exact(World.frozen?_of_block (a:=⟨g,j,none⟩) (World.putObj_heap_other hne)).trans (h8 j)
 case assign=>
  rintro l' pre O2 x ar A K ⟨⟨⟨wa,wc,sa,sc,rfl,h3,h4,h5,h6,h7,h8⟩,g,c',v',he,hg1,hg2,hgO,hg3⟩,hp⟩ hK
  have HK:=aA0 hK
  clear hK
  have he2:wa=some ⟨g,0,none⟩:=by
   have:=congrArg (fun a:Array Value=>a[0]?) he
   simp at this
   exact this.1
  subst he2
  clear he
  gi_wp2
  refine HK.out _ _ (aA2 A _) ⟨g,wc,sa,sc,A.heap.size,hp,rfl,h3,?_,h7,h8,⟨hg1,hgO⟩,fun j=>(World.frozen?_of_block (a:=⟨g,j,none⟩) ((aA2 A _).block g hg2)).trans (hg3 j),aA3 _ _ rfl⟩
  exact(h4.mono fun k hk=>(aA2 A _).block k hk).sub fun k hk=>by simp;omega
 case done=>
  rintro D O2 W2 hD ⟨O,tv,h⟩ hK
  have HJ:=aA0 ((hJl _ _).still (hJc _ _) _ _ _ (.deferred none) h.j (show W.heap.size≤D by omega) hK rfl)
  clear h
  gi_wp2
  exact⟨by simp,.inl ⟨_,_,rfl,run_takeDeferred hK,.tuple #[],by simp[results,Tryz.results102,go_sem],⟨_,rfl⟩,Or.inl ⟨O,HJ.out⟩⟩⟩
 case stop=>
  rintro D W2 hD h1 hK
  have HJ:=aA0 (hXs _ _ _ (.deferred none) h1 (show W.heap.size≤D by omega) hK rfl)
  gi_wp2
  exact⟨by simp,.inl ⟨_,_,rfl,run_takeDeferred hK,.tuple #[],by simp[results,Tryz.results102,go_sem],⟨_,rfl⟩,Or.inr HJ.out⟩⟩
 case body=>
  rintro l2 pre O2 x ar a' A ⟨O1,tv,h⟩ ⟨g,wc,sa,sc,sx,hp,rfl,h3,h4,h6,h7,hg,hfz,h9⟩
  have zY2:W.heap.size≤Y.heap.size:=by omega
  clear zY
  obtain⟨hb1,hb2⟩:=HB pre x hp
  have h5x:x.1.length≤5:=h5 x (hp.subset (by simp))
  have hlen6:=h.len
  have hT6:(tyF p [qry] (pre++[x])).length≤6:=by
   rw[aJS]
   simp[tyF,tyS]
   omega
  obtain⟨k,hk⟩:∃k,x.1.length=k+1:=⟨x.1.length- 1,by omega⟩
  obtain⟨T,hT⟩:∃T,T=tyF p [qry] pre:=⟨_,rfl⟩
  obtain⟨nm,hnm⟩:∃nm,nm=nth T k:=⟨_,rfl⟩
  obtain⟨gF,hgF⟩:∃gF,gF=fldF p nm x.2.name:=⟨_,rfl⟩
  obtain⟨kn,hkn⟩:∃kn,kn=(fldB p nm x.2.name&&!gF.hidden):=⟨_,rfl⟩
  have hTN:tyF p [qry] (pre++[x])=T.take (k+1)++[gF.of]:=by
   rw[aJS,←hT]
   simp only[tyF,List.foldl_cons,List.foldl_nil,tyS]
   rw[hk,Nat.add_sub_cancel,←hnm,←hgF]
  have hAN:askF p [qry] (pre++[x])=askF p [qry] pre++[(x.1,x.2,nm)]:=by
   rw[aTI,←hT,hk,Nat.add_sub_cancel,←hnm]
  have hrow:=h.row
  rw[←hT] at hrow hb1 hlen6
  obtain⟨tg,tcap,rfl,htc⟩:∃tg tcap,tv=.slice (some ⟨tg,0,none⟩) T.length tcap∧T.length≤tcap:=by
   rcases hrow.2 with⟨-,h0⟩| ⟨g',cap',cur,e,-,-,hn,-⟩
   ·omega
   ·exact⟨g',cap',e,hn⟩
  have hkT:k<T.length:=by omega
  have hol:=hrow.lt tg rfl
  have ltb:=(Array.getElem?_eq_some_iff.1 h.typ).1
  have lyb:=(Array.getElem?_eq_some_iff.1 h.yld).1
  have lsx:=(Array.getElem?_eq_some_iff.1 h9).1
  have htg1:tg≠W.heap.size+1+1:=fun e=>h.nb.1 (by rw[e];rfl)
  have htg2:tg≠W.heap.size:=fun e=>h.nb.2 (by rw[e];rfl)
  have ce:A.cell? ⟨tg,k,none⟩=some (.string nm):=by
   rw[hrow.cellAt k (by omega),List.getElem?_map,hnm]
   simp[nth,List.getD_eq_getElem?_getD,hkT]
  have HS:Hid (∀W',Below A.heap.size A W'→W'.cell? ⟨pb,0,none⟩=some c0∧W'.cell? ⟨pb,1,none⟩=some c1∧W'.cell? ⟨W.heap.size+1+1,0,none⟩=some (.slice (some ⟨tg,0,none⟩) T.length tcap)∧W'.cell? ⟨tg,k,none⟩=some (.string nm)∧W'.cell? ⟨sx,0,none⟩=some (.string x.2.al)∧W'.cell? ⟨sx,1,none⟩=some (.string x.2.name)∧W'.cell? ⟨sx,2,none⟩=some (.bool x.2.one)∧W'.cell? ⟨sx,3,none⟩=some (.int .i64 x.2.id)∧W'.cell? ⟨sx,4,none⟩=some (.slice sa x.2.kids.length sc)):=aA0 fun W' hW=>by
   have hc:∀b o,b<A.heap.size→W'.cell? ⟨b,o,none⟩=A.cell? ⟨b,o,none⟩:=fun b o hb=>hW.cell (p:=⟨b,o,none⟩) hb
   rw[hc pb 0 (by omega),hc pb 1 (by omega),hc _ 0 ltb,hc tg k hol.2,hc sx 0 lsx,hc sx 1 lsx,hc sx 2 lsx,hc sx 3 lsx,hc sx 4 lsx]
   exact⟨h.prt.1,h.prt.2,(aA1 h.typ 0 (by simp)).1,ce,(aA1 h9 0 (by simp)).1,(aA1 h9 1 (by simp)).1,(aA1 h9 2 (by simp)).1,(aA1 h9 3 (by simp)).1,(aA1 h9 4 (by simp)).1⟩
  have HAF:Hid (∀W',Below A.heap.size A W'→Calls Tryz.prog 103 #[.agg #[c0,c1],.string nm,.agg #[.string x.2.al,.string x.2.name,.bool x.2.one,.int .i64 x.2.id,.slice sa x.2.kids.length sc]] W' fun e w'=>∃na nc,e=.returned (aHO nm x.2 sa sc gF na nc kn)∧FRep w' (·<lo) gF (aggF gF na nc)∧Below W'.heap.size W' w'):=aA0 fun W' hW=>by
   rw[hkn,hgF]
   exact aK5 p nm x.2 sa sc W' lo _ (h.rep.under (hW.mono (by omega))) (by have:=hW.size;omega)
  have HH:=aA0 h
  have HROW:=aA0 hrow
  have HNAME:=aA0 (And.intro hgF (And.intro hkn (And.intro hTN hAN)))
  have HT6:=aA0 hT6
  have HWAY:=aA0 (And.intro h4 (And.intro h6 (And.intro h7 (And.intro hg (And.intro hfz hp)))))
  have hki:((k+1:Nat):Int)- 1=(k:Int):=by omega
  have hkTi:(k:Int)<(T.length:Int):=by omega
  have hwr:IntKind.i64.wrap (k:Int)=(k:Int):=IntWalk.i64_in _ (by omega)
  have hwr1:IntKind.i64.wrap ((k+1:Nat):Int)=((k+1:Nat):Int):=IntWalk.i64_in _ (by omega)
  have hk0i:(0:Int)≤(k:Int):=by omega
  have hk0j:(0:Int)≤(k:Int)+1:=by omega
  have hkcj:(k:Int)+1≤(tcap:Int):=by omega
  have hcne:(tcap=0)=False:=by simp;omega
  have hkci:((k+1:Nat):Int)≤(tcap:Int):=by omega
  have HK:=aA0 hk
  rw[hk] at h3 ⊢
  unfold aHO at HAF
  clear h hrow hT6 h4 h6 h7 hg hfz hp hgF hkn hTN hAN hT hnm hk ce hb1 hb2 h5x h9
  gi_wp2
  refine Code.wpIn_mono (Q:=fun e a3 w3=>e=.normal∧∃(eb:Nat) (na:Option Addr) (nc:Nat) (u14 u15 u16 u17 u18 u19 u20 u21 u22 u23:Value),a3={ tmps:=#[.func (.yield l) #[] #[],.pointer (some ⟨sb,0,none⟩),.pointer (some ⟨pb,0,none⟩),.pointer (some ⟨W.heap.size,0,none⟩),.pointer (some ⟨W.heap.size+1+1,0,none⟩),.slice (some ⟨g,0,none⟩) (k+1) wc,.pointer (some ⟨sx,0,none⟩),.int .i64 ((k+1:Nat):Int),.pointer (some ⟨eb,0,none⟩),.slice (some ⟨W.heap.size+1,0,none⟩) 1 1,.slice ka ks.length kc,.func (.func 79) #[] #[.pointer (some ⟨W.heap.size+1+1+1,0,none⟩)],.slice (some ⟨g,0,none⟩) (k+1) wc,.agg #[.string x.2.al,.string x.2.name,.bool x.2.one,.int .i64 x.2.id,.slice sa x.2.kids.length sc],u14,u15,u16,u17,u18,u19,u20,u21,u22,u23,undef,undef,undef,undef,undef,undef,undef,undef,undef,undef,undef,undef,undef],defers:=[] }∧Hid (A.heap.size≤eb∧Below A.heap.size A w3∧(∀j,j<15→w3.cell? ⟨eb,j,none⟩=some ((aCT nm x.2 sa sc gF na nc kn).getD j undef))∧FRep w3 (·<lo) gF (aggF gF na nc))) ?imp6 ?reg6
  case reg6=>
   refine aE6 (fun w'=>w'.cell? ⟨pb,0,none⟩=some c0∧w'.cell? ⟨pb,1,none⟩=some c1∧w'.cell? ⟨W.heap.size+1+1,0,none⟩=some (.slice (some ⟨tg,0,none⟩) T.length tcap)∧w'.cell? ⟨tg,k,none⟩=some (.string nm)∧w'.cell? ⟨sx,0,none⟩=some (.string x.2.al)∧w'.cell? ⟨sx,1,none⟩=some (.string x.2.name)∧w'.cell? ⟨sx,2,none⟩=some (.bool x.2.one)∧w'.cell? ⟨sx,3,none⟩=some (.int .i64 x.2.id)∧w'.cell? ⟨sx,4,none⟩=some (.slice sa x.2.kids.length sc)) (by kernel_rfl) (by rintro⟨a,w,h,-⟩;cases h) (by kernel_rfl) (HS.out _ (Below.refl _ _).drew) (fun hHeld=>?_)
   have bX:Below A.heap.size A A.drew:=(Below.refl _ _).drew
   generalize A.drew=wD at*
   refine tkH 0 hHeld ?_ (hQ:=(fun _ _ _ h=>by cases h.1))
   refine tkH 1 hHeld ?_ (hQ:=(fun _ _ _ h=>by cases h.1))
   refine tkH 2 hHeld ?_ (hQ:=(fun _ _ _ h=>by cases h.1))
   refine tkH 3 hHeld ?_ (hQ:=(fun _ _ _ h=>by cases h.1))
   refine tkH 4 hHeld ?_ (hQ:=(fun _ _ _ h=>by cases h.1))
   refine tkH 5 hHeld ?_ (hQ:=(fun _ _ _ h=>by cases h.1))
   refine tkH 6 hHeld ?_ (hQ:=(fun _ _ _ h=>by cases h.1))
   refine rdyH [7,8] ?_
   refine rcH (fun K hK=>?_) ?_
   ·go_simp
    refine(HAF.out wD bX).mono ?_
    rintro e wC ⟨na,nc,rfl,hFC,bC⟩
    have HFC:=aA0 (show∀W',Below wC.heap.size wC W'→FRep W' (·<lo) gF (aggF gF na nc) from fun W' hW=>hFC.mono fun j hj=>hW.block j (by have:j<lo:=hj;have:=bX.size;have:=bC.size;omega))
    have bX:=bX.trans (bC.mono bX.size)
    clear hFC
    have bCC:Below wC.heap.size wC wC:=Below.refl _ _
    refine hK.out _ _ (HS.out _ bX) (fun hHeld=>?_)
    clear hK K
    try simp only[Act.put,List.setIfInBounds_toArray,List.set_cons_zero,List.set_cons_succ]
    refine rdyH [8] ?_
    refine rcH (fun K hK=>?_) AllReadyH.nil
    go_simp
    have bE:=aA2 wC (.cells #[.string ⟨#[]⟩,.string ⟨#[]⟩,.bool false,.int .i64 0,.slice none 0 0,.string ⟨#[]⟩,.string ⟨#[]⟩,.string ⟨#[]⟩,.bool false,.bool false,.bool false,.bool false,.bool false,.slice none 0 0,.bool false] 95)
    have nE:=aA3 (w:=wC) #[.string ⟨#[]⟩,.string ⟨#[]⟩,.bool false,.int .i64 0,.slice none 0 0,.string ⟨#[]⟩,.string ⟨#[]⟩,.string ⟨#[]⟩,.bool false,.bool false,.bool false,.bool false,.bool false,.slice none 0 0,.bool false] 95 rfl
    have zE:(wC.alloc (.cells #[.string ⟨#[]⟩,.string ⟨#[]⟩,.bool false,.int .i64 0,.slice none 0 0,.string ⟨#[]⟩,.string ⟨#[]⟩,.string ⟨#[]⟩,.bool false,.bool false,.bool false,.bool false,.bool false,.slice none 0 0,.bool false] 95)).heap.size=wC.heap.size+1:=by simp
    obtain⟨eb,heb⟩:∃eb,eb=wC.heap.size:=⟨_,rfl⟩
    have hAe:A.heap.size≤eb:=by rw[heb];exact bX.size
    have heE:eb+1=wC.heap.size+1:=by omega
    have bX:=bX.trans (bE.mono bX.size)
    have bCC:=bE
    refine hK.out _ _ (HS.out _ bX) (fun hHeld=>?_)
    clear hK K
    try simp only[Act.put,List.setIfInBounds_toArray,List.set_cons_zero,List.set_cons_succ]
    generalize wC.alloc (.cells #[.string ⟨#[]⟩,.string ⟨#[]⟩,.bool false,.int .i64 0,.slice none 0 0,.string ⟨#[]⟩,.string ⟨#[]⟩,.string ⟨#[]⟩,.bool false,.bool false,.bool false,.bool false,.bool false,.slice none 0 0,.bool false] 95)=wE at*
    rw[←heb] at nE zE
    try rw[←heb]
    clear heb heE
    refine rdyH [9] ?_
    refine rcH (fun K hK=>?_) AllReadyH.nil
    have RB:=nE
    have r0:=(aA1 RB 0 (by simp)).1
    have f0:=(aA1 RB 0 (by simp)).2
    have r1:=(aA1 RB 1 (by simp)).1
    have f1:=(aA1 RB 1 (by simp)).2
    have r2:=(aA1 RB 2 (by simp)).1
    have f2:=(aA1 RB 2 (by simp)).2
    have r3:=(aA1 RB 3 (by simp)).1
    have f3:=(aA1 RB 3 (by simp)).2
    have r4:=(aA1 RB 4 (by simp)).1
    have f4:=(aA1 RB 4 (by simp)).2
    have r5:=(aA1 RB 5 (by simp)).1
    have f5:=(aA1 RB 5 (by simp)).2
    have r6:=(aA1 RB 6 (by simp)).1
    have f6:=(aA1 RB 6 (by simp)).2
    have r7:=(aA1 RB 7 (by simp)).1
    have f7:=(aA1 RB 7 (by simp)).2
    have r8:=(aA1 RB 8 (by simp)).1
    have f8:=(aA1 RB 8 (by simp)).2
    have r9:=(aA1 RB 9 (by simp)).1
    have f9:=(aA1 RB 9 (by simp)).2
    have r10:=(aA1 RB 10 (by simp)).1
    have f10:=(aA1 RB 10 (by simp)).2
    have r11:=(aA1 RB 11 (by simp)).1
    have f11:=(aA1 RB 11 (by simp)).2
    have r12:=(aA1 RB 12 (by simp)).1
    have f12:=(aA1 RB 12 (by simp)).2
    have r13:=(aA1 RB 13 (by simp)).1
    have f13:=(aA1 RB 13 (by simp)).2
    have r14:=(aA1 RB 14 (by simp)).1
    have f14:=(aA1 RB 14 (by simp)).2
    go_simp
    have bT:Below A.heap.size A (puts wE eb 0 (aCT nm x.2 sa sc gF na nc kn)):=aD2 hAe _ _ _ bX
    have HT15:=aA0 (aDL RB rfl (aCT nm x.2 sa sc gF na nc kn) rfl _ rfl)
    have HF15:=aA0 ((HFC.out wE bCC).mono fun j hj=>(aCX eb j (by have:j<lo:=hj;omega) (aCT nm x.2 sa sc gF na nc kn) wE 0))
    refine hK.out _ _ (HS.out _ bT) (fun hHeld=>?_)
    clear hK K
    try simp only[Act.put,List.setIfInBounds_toArray,List.set_cons_zero,List.set_cons_succ]
    refine wpAnyH_done (by kernel_rfl) ?_ _
    exact⟨rfl,eb,na,nc,_,_,_,_,_,_,_,_,_,_,rfl,aA0 ⟨hAe,bT,HT15.out,HF15.out⟩⟩
   refine rcH (fun K hK=>?_) AllReadyH.nil
   go_simp
   have bE:=aA2 wD (.cells #[.string ⟨#[]⟩,.string ⟨#[]⟩,.bool false,.int .i64 0,.slice none 0 0,.string ⟨#[]⟩,.string ⟨#[]⟩,.string ⟨#[]⟩,.bool false,.bool false,.bool false,.bool false,.bool false,.slice none 0 0,.bool false] 95)
   have nE:=aA3 (w:=wD) #[.string ⟨#[]⟩,.string ⟨#[]⟩,.bool false,.int .i64 0,.slice none 0 0,.string ⟨#[]⟩,.string ⟨#[]⟩,.string ⟨#[]⟩,.bool false,.bool false,.bool false,.bool false,.bool false,.slice none 0 0,.bool false] 95 rfl
   have zE:(wD.alloc (.cells #[.string ⟨#[]⟩,.string ⟨#[]⟩,.bool false,.int .i64 0,.slice none 0 0,.string ⟨#[]⟩,.string ⟨#[]⟩,.string ⟨#[]⟩,.bool false,.bool false,.bool false,.bool false,.bool false,.slice none 0 0,.bool false] 95)).heap.size=wD.heap.size+1:=by simp
   obtain⟨eb,heb⟩:∃eb,eb=wD.heap.size:=⟨_,rfl⟩
   have hAe:A.heap.size≤eb:=by rw[heb];exact bX.size
   have heE:eb+1=wD.heap.size+1:=by omega
   have bX:=bX.trans (bE.mono bX.size)
   refine hK.out _ _ (HS.out _ bX) (fun hHeld=>?_)
   clear hK K
   try simp only[Act.put,List.setIfInBounds_toArray,List.set_cons_zero,List.set_cons_succ]
   generalize wD.alloc (.cells #[.string ⟨#[]⟩,.string ⟨#[]⟩,.bool false,.int .i64 0,.slice none 0 0,.string ⟨#[]⟩,.string ⟨#[]⟩,.string ⟨#[]⟩,.bool false,.bool false,.bool false,.bool false,.bool false,.slice none 0 0,.bool false] 95)=wE at*
   rw[←heb] at nE zE
   try rw[←heb]
   clear heb heE
   refine rdyH [7] ?_
   refine rcH (fun K hK=>?_) AllReadyH.nil
   go_simp
   refine(HAF.out wE bX).mono ?_
   rintro e wC ⟨na,nc,rfl,hFC,bC⟩
   have HFC:=aA0 (show∀W',Below wC.heap.size wC W'→FRep W' (·<lo) gF (aggF gF na nc) from fun W' hW=>hFC.mono fun j hj=>hW.block j (by have:j<lo:=hj;have:=bX.size;have:=bC.size;omega))
   have bX:=bX.trans (bC.mono bX.size)
   clear hFC
   have bCC:Below wC.heap.size wC wC:=Below.refl _ _
   have nE:=(bC.block _ (by omega)).trans nE
   refine hK.out _ _ (HS.out _ bX) (fun hHeld=>?_)
   clear hK K
   try simp only[Act.put,List.setIfInBounds_toArray,List.set_cons_zero,List.set_cons_succ]
   refine rdyH [9] ?_
   refine rcH (fun K hK=>?_) AllReadyH.nil
   have RB:=nE
   have r0:=(aA1 RB 0 (by simp)).1
   have f0:=(aA1 RB 0 (by simp)).2
   have r1:=(aA1 RB 1 (by simp)).1
   have f1:=(aA1 RB 1 (by simp)).2
   have r2:=(aA1 RB 2 (by simp)).1
   have f2:=(aA1 RB 2 (by simp)).2
   have r3:=(aA1 RB 3 (by simp)).1
   have f3:=(aA1 RB 3 (by simp)).2
   have r4:=(aA1 RB 4 (by simp)).1
   have f4:=(aA1 RB 4 (by simp)).2
   have r5:=(aA1 RB 5 (by simp)).1
   have f5:=(aA1 RB 5 (by simp)).2
   have r6:=(aA1 RB 6 (by simp)).1
   have f6:=(aA1 RB 6 (by simp)).2
   have r7:=(aA1 RB 7 (by simp)).1
   have f7:=(aA1 RB 7 (by simp)).2
   have r8:=(aA1 RB 8 (by simp)).1
   have f8:=(aA1 RB 8 (by simp)).2
   have r9:=(aA1 RB 9 (by simp)).1
   have f9:=(aA1 RB 9 (by simp)).2
   have r10:=(aA1 RB 10 (by simp)).1
   have f10:=(aA1 RB 10 (by simp)).2
   have r11:=(aA1 RB 11 (by simp)).1
   have f11:=(aA1 RB 11 (by simp)).2
   have r12:=(aA1 RB 12 (by simp)).1
   have f12:=(aA1 RB 12 (by simp)).2
   have r13:=(aA1 RB 13 (by simp)).1
   have f13:=(aA1 RB 13 (by simp)).2
   have r14:=(aA1 RB 14 (by simp)).1
   have f14:=(aA1 RB 14 (by simp)).2
   go_simp
   have bT:Below A.heap.size A (puts wC eb 0 (aCT nm x.2 sa sc gF na nc kn)):=aD2 hAe _ _ _ bX
   have HT15:=aA0 (aDL RB rfl (aCT nm x.2 sa sc gF na nc kn) rfl _ rfl)
   have HF15:=aA0 ((HFC.out wC bCC).mono fun j hj=>(aCX eb j (by have:j<lo:=hj;omega) (aCT nm x.2 sa sc gF na nc kn) wC 0))
   refine hK.out _ _ (HS.out _ bT) (fun hHeld=>?_)
   clear hK K
   try simp only[Act.put,List.setIfInBounds_toArray,List.set_cons_zero,List.set_cons_succ]
   refine wpAnyH_done (by kernel_rfl) ?_ _
   exact⟨rfl,eb,na,nc,_,_,_,_,_,_,_,_,_,_,rfl,aA0 ⟨hAe,bT,HT15.out,HF15.out⟩⟩
  rintro e a3 w3 ⟨rfl,eb,na,nc,u14,u15,u16,u17,u18,u19,u20,u21,u22,u23,rfl,H6⟩
  have b3:=H6.out.2.1
  have z3:=b3.size
  have hAe:=H6.out.1
  have hel:eb<w3.heap.size:=aES (H6.out.2.2.1 7 (by omega))
  have H7:Hid (∀W',Below w3.heap.size w3 W'→W'.cell? ⟨W.heap.size+1+1,0,none⟩=some (.slice (some ⟨tg,0,none⟩) T.length tcap)∧W'.frozen? ⟨W.heap.size+1+1,0,none⟩=false∧W'.cell? ⟨eb,7,none⟩=some (.string gF.of)∧W'.ownsRow W.heap.size 9 1 (.slice (some ⟨tg,0,none⟩) (k+1) tcap) (k+1) ((T.map Value.string).take (k+1))):=aA0 fun W' hW=>by
   have hAW:=b3.trans (hW.mono z3)
   have ht:=(hAW.block _ ltb).trans HH.out.typ
   exact⟨(aA1 ht 0 (by simp)).1,(aA1 ht 0 (by simp)).2,(hW.cell (p:=⟨eb,7,none⟩) hel).trans (H6.out.2.2.1 7 (by omega)),aR4 (aAT HROW.out fun j hj=>hAW.block j (HROW.out.lt j hj).2) (by omega)⟩
  gi_wp2
  refine Code.wpIn_mono (Q:=fun e a3 w4=>e=.normal∧∃(tg2 tcap2:Nat) (u14 u15 u16 u17 u18 u19 u20 u21 u22 u23 u24 u25 u26 u27 u28 u29 u30 u31:Value),a3={ tmps:=#[.func (.yield l) #[] #[],.pointer (some ⟨sb,0,none⟩),.pointer (some ⟨pb,0,none⟩),.pointer (some ⟨W.heap.size,0,none⟩),.pointer (some ⟨W.heap.size+1+1,0,none⟩),.slice (some ⟨g,0,none⟩) (k+1) wc,.pointer (some ⟨sx,0,none⟩),.int .i64 ((k+1:Nat):Int),.pointer (some ⟨eb,0,none⟩),.slice (some ⟨W.heap.size+1,0,none⟩) 1 1,.slice ka ks.length kc,.func (.func 79) #[] #[.pointer (some ⟨W.heap.size+1+1+1,0,none⟩)],.slice (some ⟨g,0,none⟩) (k+1) wc,.agg #[.string x.2.al,.string x.2.name,.bool x.2.one,.int .i64 x.2.id,.slice sa x.2.kids.length sc],u14,u15,u16,u17,u18,u19,u20,u21,u22,u23,u24,u25,u26,u27,u28,u29,u30,u31,undef,undef,undef,undef,undef],defers:=[] }∧Hid (∃W2:World,w4=W2.setCell ⟨W.heap.size+1+1,0,none⟩ (.slice (some ⟨tg2,0,none⟩) (k+1+1) tcap2)∧w3.heap.size≤W2.heap.size∧(W2.os=w3.os∧W2.tape=w3.tape∧W2.output=w3.output)∧(∀b,b<w3.heap.size→b≠tg→W2.heap[b]?=w3.heap[b]?)∧W2.ownsRow W.heap.size 9 1 (.slice (some ⟨tg2,0,none⟩) (k+1+1) tcap2) (k+1+1) ((T.map Value.string).take (k+1)++[.string gF.of])∧(tg2=tg∨w3.heap.size≤tg2))) ?imp7 ?reg7
  case reg7=>
   refine aE6 (fun w'=>w'.cell? ⟨eb,7,none⟩=some (.string gF.of)) (by kernel_rfl) (by rintro⟨a,w,h,-⟩;cases h) (by kernel_rfl) (H7.out _ (Below.refl _ _).drew).2.2.1 (fun hHeld=>?_)
   have bX:Below w3.heap.size w3 w3.drew:=(Below.refl _ _).drew
   generalize w3.drew=wD at*
   obtain⟨t0,tf,e7,hrw⟩:=H7.out wD bX
   refine tkH 1 hHeld ?_ (hQ:=(fun _ _ _ h=>by cases h.1))
   refine tkH 3 hHeld ?_ (hQ:=(fun _ _ _ h=>by cases h.1))
   refine tkH 4 hHeld ?_ (hQ:=(fun _ _ _ h=>by cases h.1))
   refine tkH 5 hHeld ?_ (hQ:=(fun _ _ _ h=>by cases h.1))
   refine rdyH [0,6] ?_
   refine rcH (fun K hK=>?_) ?_
   ·go_simp
    refine hK.out _ _ (H7.out _ bX).2.2.1 (fun hHeld=>?_)
    clear hK K
    try simp only[Act.put,List.setIfInBounds_toArray,List.set_cons_zero,List.set_cons_succ]
    refine tkH 2 hHeld ?_ (hQ:=(fun _ _ _ h=>by cases h.1))
    refine rdyH [6] ?_
    refine rcH (fun K hK=>?_) AllReadyH.nil
    go_simp
    have bE:=aA2 wD (.cells #[.string gF.of] 9)
    have nE:=aA3 (w:=wD) #[.string gF.of] 9 rfl
    have zE:(wD.alloc (.cells #[.string gF.of] 9)).heap.size=wD.heap.size+1:=by simp
    have bX:=bX.trans (bE.mono bX.size)
    refine hK.out _ _ (H7.out _ bX).2.2.1 (fun hHeld=>?_)
    clear hK K
    try simp only[Act.put,List.setIfInBounds_toArray,List.set_cons_zero,List.set_cons_succ]
    generalize wD.alloc (.cells #[.string gF.of] 9)=wE at*
    clear t0 tf e7 hrw
    obtain⟨t0,tf,e7,hrw⟩:=H7.out wE bX
    refine rdyH [7] ?_
    refine rcH (fun K hK=>?_) AllReadyH.nil
    refine step_append_lies _ rfl (.tmp 26) (.tmp 30) 29 rfl W.heap.size 9 i0 (.string ByteArray.empty) 1 16 Tryz.underlying29 hi hz0 hz1 hz2 rfl (by decide) (.slice (some ⟨tg,0,none⟩) (k+1) tcap) (k+1) ((T.map Value.string).take (k+1)) rfl hrw ⟨wD.heap.size,0,none⟩ 1 1 [.string gF.of] rfl rfl (World.news_of_block nE) (by intro u hu;simp at hu;subst hu;rfl) (by omega) (by unfold maxLen;omega) (by omega) (by have:=bX.size;omega) wE.heap.size rfl ?_
    intro tg2 tcap2 wP hown hgrow hat hltP
    have p7:wP.cell? ⟨eb,7,none⟩=some (.string gF.of):=(World.cell?_of_block (a:=⟨eb,7,none⟩) (hgrow.block eb (by have:=bX.size;omega) (by simp[Value.ownBlock];omega))).trans e7
    have p0:wP.cell? ⟨W.heap.size+1+1,0,none⟩=some (.slice (some ⟨tg,0,none⟩) T.length tcap):=(World.cell?_of_block (a:=⟨W.heap.size+1+1,0,none⟩) (hgrow.block (W.heap.size+1+1) (by have:=bX.size;omega) (by simp[Value.ownBlock];omega))).trans t0
    have pf:wP.frozen? ⟨W.heap.size+1+1,0,none⟩=false:=(World.frozen?_of_block (a:=⟨W.heap.size+1+1,0,none⟩) (hgrow.block (W.heap.size+1+1) (by have:=bX.size;omega) (by simp[Value.ownBlock];omega))).trans tf
    refine hK.out _ _ p7 (fun hHeld=>?_)
    clear hK K
    try simp only[Act.put,List.setIfInBounds_toArray,List.set_cons_zero,List.set_cons_succ]
    refine rdyH [8] ?_
    refine rcH (fun K hK=>?_) AllReadyH.nil
    go_simp
    refine hK.out _ _ ((World.cell?_setCell_other _ _ _ _ (by intro e;simp only[Addr.mk.injEq] at e;omega)).trans p7) (fun hHeld=>?_)
    clear hK K
    try simp only[Act.put,List.setIfInBounds_toArray,List.set_cons_zero,List.set_cons_succ]
    refine wpAnyH_done (by kernel_rfl) ?_ _
    refine⟨rfl,tg2,tcap2,_,_,_,_,_,_,_,_,_,_,_,_,_,_,_,_,_,_,rfl,aA0 ⟨wP,rfl,?_,?_,?_,hown,?_⟩⟩
    ·have:=hgrow.size;have:=bX.size;omega
    ·exact⟨hgrow.os.trans bX.os,hgrow.tape.trans bX.tape,hgrow.output.trans bX.output⟩
    ·exact fun b hb hne=>(hgrow.block b (by have:=bX.size;omega) (by simp[Value.ownBlock];omega)).trans (bX.block b hb)
    ·rcases hat with e| e
     ·left;simpa[Value.ownBlock] using e.symm
     ·right;have:=bX.size;omega
   refine rcH (fun K hK=>?_) AllReadyH.nil
   go_simp
   have bE:=aA2 wD (.cells #[.string gF.of] 9)
   have nE:=aA3 (w:=wD) #[.string gF.of] 9 rfl
   have zE:(wD.alloc (.cells #[.string gF.of] 9)).heap.size=wD.heap.size+1:=by simp
   have bX:=bX.trans (bE.mono bX.size)
   refine hK.out _ _ (H7.out _ bX).2.2.1 (fun hHeld=>?_)
   clear hK K
   try simp only[Act.put,List.setIfInBounds_toArray,List.set_cons_zero,List.set_cons_succ]
   generalize wD.alloc (.cells #[.string gF.of] 9)=wE at*
   clear t0 tf e7 hrw
   obtain⟨t0,tf,e7,hrw⟩:=H7.out wE bX
   refine rdyH [0] ?_
   refine rcH (fun K hK=>?_) AllReadyH.nil
   go_simp
   refine hK.out _ _ (H7.out _ bX).2.2.1 (fun hHeld=>?_)
   clear hK K
   try simp only[Act.put,List.setIfInBounds_toArray,List.set_cons_zero,List.set_cons_succ]
   refine tkH 2 hHeld ?_ (hQ:=(fun _ _ _ h=>by cases h.1))
   refine rdyH [7] ?_
   refine rcH (fun K hK=>?_) AllReadyH.nil
   refine step_append_lies _ rfl (.tmp 26) (.tmp 30) 29 rfl W.heap.size 9 i0 (.string ByteArray.empty) 1 16 Tryz.underlying29 hi hz0 hz1 hz2 rfl (by decide) (.slice (some ⟨tg,0,none⟩) (k+1) tcap) (k+1) ((T.map Value.string).take (k+1)) rfl hrw ⟨wD.heap.size,0,none⟩ 1 1 [.string gF.of] rfl rfl (World.news_of_block nE) (by intro u hu;simp at hu;subst hu;rfl) (by omega) (by unfold maxLen;omega) (by omega) (by have:=bX.size;omega) wE.heap.size rfl ?_
   intro tg2 tcap2 wP hown hgrow hat hltP
   have p7:wP.cell? ⟨eb,7,none⟩=some (.string gF.of):=(World.cell?_of_block (a:=⟨eb,7,none⟩) (hgrow.block eb (by have:=bX.size;omega) (by simp[Value.ownBlock];omega))).trans e7
   have p0:wP.cell? ⟨W.heap.size+1+1,0,none⟩=some (.slice (some ⟨tg,0,none⟩) T.length tcap):=(World.cell?_of_block (a:=⟨W.heap.size+1+1,0,none⟩) (hgrow.block (W.heap.size+1+1) (by have:=bX.size;omega) (by simp[Value.ownBlock];omega))).trans t0
   have pf:wP.frozen? ⟨W.heap.size+1+1,0,none⟩=false:=(World.frozen?_of_block (a:=⟨W.heap.size+1+1,0,none⟩) (hgrow.block (W.heap.size+1+1) (by have:=bX.size;omega) (by simp[Value.ownBlock];omega))).trans tf
   refine hK.out _ _ p7 (fun hHeld=>?_)
   clear hK K
   try simp only[Act.put,List.setIfInBounds_toArray,List.set_cons_zero,List.set_cons_succ]
   refine rdyH [8] ?_
   refine rcH (fun K hK=>?_) AllReadyH.nil
   go_simp
   refine hK.out _ _ ((World.cell?_setCell_other _ _ _ _ (by intro e;simp only[Addr.mk.injEq] at e;omega)).trans p7) (fun hHeld=>?_)
   clear hK K
   try simp only[Act.put,List.setIfInBounds_toArray,List.set_cons_zero,List.set_cons_succ]
   refine wpAnyH_done (by kernel_rfl) ?_ _
   refine⟨rfl,tg2,tcap2,_,_,_,_,_,_,_,_,_,_,_,_,_,_,_,_,_,_,rfl,aA0 ⟨wP,rfl,?_,?_,?_,hown,?_⟩⟩
   ·have:=hgrow.size;have:=bX.size;omega
   ·exact⟨hgrow.os.trans bX.os,hgrow.tape.trans bX.tape,hgrow.output.trans bX.output⟩
   ·exact fun b hb hne=>(hgrow.block b (by have:=bX.size;omega) (by simp[Value.ownBlock];omega)).trans (bX.block b hb)
   ·rcases hat with e| e
    ·left;simpa[Value.ownBlock] using e.symm
    ·right;have:=bX.size;omega
  rintro e a3 w4 ⟨rfl,tg2,tcap2,u14,u15,u16,u17,u18,u19,u20,u21,u22,u23,u24,u25,u26,u27,u28,u29,u30,u31,rfl,H8⟩
  have HALL:Hid (∃W2:World,w4=W2.setCell ⟨W.heap.size+1+1,0,none⟩ (.slice (some ⟨tg2,0,none⟩) (k+1+1) tcap2)∧w3.heap.size≤W2.heap.size∧(∀b,b<w3.heap.size→b≠tg→W2.heap[b]?=w3.heap[b]?)∧
    J (askF p [qry] pre) O1 w4∧aBL O2 A w4∧KeepsOthers A w4∧∀(B:World) (O':Nat→Prop),J (askF p [qry] (pre++[x])) O' B→aBL O1 w4 B→(∀b,O' b→O1 b∨w4.heap.size≤b)→∃O2',(∃O tv,IAs p c0 c1 lo W.heap.size J l pb W.heap.size (W.heap.size+1+1) (pre++[x]) O2' O tv B)∧aBL O2 A B∧∀b,O2' b→O2 b∨A.heap.size≤b):=aA0 (by
   obtain⟨W2,hw4,hz2,hos2,hbl2,hown2,hat2⟩:=H8.out
   have hturn:=HH.out.turn hJl hJc (x:=x) (tv':=.slice (some ⟨tg2,0,none⟩) (k+1+1) tcap2) (W2:=W2) (by omega) hlo hpbl (Nat.le_refl _) (by omega) (by omega) ⟨hos2.1.trans b3.os,hos2.2.1.trans b3.tape,hos2.2.2.trans b3.output⟩ (fun b hb hne=>(hbl2 b (by omega) (fun e=>hne (by rw[e];rfl))).trans (b3.block b hb)) (by
    rw[HNAME.out.2.2.1]
    have e1:(T.take (k+1)++[gF.of]).length=k+1+1:=by simp;omega
    rw[e1,List.map_append,List.map_take]
    exact hown2) (hat2.imp (fun e=>by rw[e];rfl) fun h=>⟨tg2,rfl,by omega⟩)
   rw[←hw4] at hturn
   exact⟨W2,hw4,hz2,hbl2,hturn.1,hturn.2.1,hturn.2.2.1,fun B O' h1 h2 h3=>hturn.2.2.2 B O' h1 h2 h3 HT6.out⟩)
  have hgO:=HWAY.out.2.2.2.1.2
  have hgt:g≠W.heap.size+1+1:=fun e=>hgO ((HH.out.own g).2 (Or.inr (Or.inl e)))
  have hgg:g≠tg:=fun e=>hgO ((HH.out.own g).2 (Or.inr (Or.inr (by rw[e];rfl))))
  have z4:w3.heap.size≤w4.heap.size:=by
   obtain⟨W2,hw4,hz2,-⟩:=HALL.out
   rw[hw4,aAZ];exact hz2
  have HBL:Hid (∀b,b<w3.heap.size→b≠tg→b≠W.heap.size+1+1→w4.heap[b]?=w3.heap[b]?):=aA0 fun b hb h1 h2=>by
   obtain⟨W2,hw4,hz2,hbl2,-⟩:=HALL.out
   rw[hw4,Below.heap_setCell _ _ _ _ h2]
   exact hbl2 b hb h1
  have hY4:w4.heap[W.heap.size]?=some (.cells #[.func (.yield l) #[] #[]] 147 (0,0)):=(HBL.out _ (by omega) (Ne.symm htg2) (by omega)).trans ((b3.block _ lyb).trans HH.out.yld)
  have cy:=(aA1 hY4 0 (by simp)).1
  simp only[List.getElem_toArray,List.getElem_cons_zero] at cy
  have H15:Hid (∀j,j<15→w4.cell? ⟨eb,j,none⟩=some ((aCT nm x.2 sa sc gF na nc kn).getD j undef)):=aA0 fun j hj=>(World.cell?_of_block (a:=⟨eb,j,none⟩) (HBL.out eb hel (by omega) (by omega))).trans (H6.out.2.2.1 j hj)
  have qc0:=H15.out 0 (by omega)
  have qc1:=H15.out 1 (by omega)
  have qc2:=H15.out 2 (by omega)
  have qc3:=H15.out 3 (by omega)
  have qc4:=H15.out 4 (by omega)
  have qc5:=H15.out 5 (by omega)
  have qc6:=H15.out 6 (by omega)
  have qc7:=H15.out 7 (by omega)
  have qc8:=H15.out 8 (by omega)
  have qc9:=H15.out 9 (by omega)
  have qc10:=H15.out 10 (by omega)
  have qc11:=H15.out 11 (by omega)
  have qc12:=H15.out 12 (by omega)
  have qc13:=H15.out 13 (by omega)
  have qc14:=H15.out 14 (by omega)
  simp only[aCT,List.getD_cons_zero,List.getD_cons_succ] at qc0 qc1 qc2 qc3 qc4 qc5 qc6 qc7 qc8 qc9 qc10 qc11 qc12 qc13 qc14
  have HARG:Hid (ArgA lo O1 p (x.1,x.2,nm) #[.slice (some ⟨g,0,none⟩) (k+1) wc,.agg #[.string x.2.al,.string x.2.name,.bool x.2.one,.int .i64 x.2.id,.slice sa x.2.kids.length sc,.string nm,.string gF.name,.string gF.of,.bool gF.list,.bool gF.must,.bool gF.far,.bool gF.hidden,.bool gF.shared,.slice na gF.needs.length nc,.bool kn]] w4):=aA0 (by
   refine⟨g,wc,sa,sc,na,nc,(by
    simp only
    rw[HK.out,←HNAME.out.1,←HNAME.out.2.1];rfl),(by rw[HK.out];exact h3),?_,⟨HWAY.out.2.2.2.1.1,fun hb=>hgO ((HH.out.own g).2 (Or.inl hb))⟩,?_,?_,HWAY.out.2.1,HWAY.out.2.2.1,?_⟩
   ·obtain⟨q1,q2,q3⟩:=HWAY.out.1
    refine⟨fun hn=>?_,q2,q3⟩
    obtain⟨b,off,e,hb,hc⟩:=q1 hn
    simp only[Option.some.injEq,Addr.mk.injEq,and_true] at e
    obtain⟨rfl,rfl⟩:=e
    have hbA:g<A.heap.size:=hb
    refine⟨g,0,rfl,by show g<_;omega,fun i hi2=>?_⟩
    exact(World.cell?_of_block (a:=⟨g,0+i,none⟩) ((HBL.out g (by omega) hgg hgt).trans (b3.block g hbA))).trans (hc i hi2)
   ·obtain⟨b,off,e,hb,hc⟩:=HWAY.out.1.1 HWAY.out.2.2.1
    simp only[Option.some.injEq,Addr.mk.injEq,and_true] at e
    obtain⟨rfl,rfl⟩:=e
    have hbA:g<A.heap.size:=hb
    omega
   ·intro j
    obtain⟨b,off,e,hb,hc⟩:=HWAY.out.1.1 HWAY.out.2.2.1
    simp only[Option.some.injEq,Addr.mk.injEq,and_true] at e
    obtain⟨rfl,rfl⟩:=e
    have hbA:g<A.heap.size:=hb
    exact(World.frozen?_of_block (a:=⟨g,j,none⟩) ((HBL.out g (by omega) hgg hgt).trans (b3.block g hbA))).trans (HWAY.out.2.2.2.2.1 j)
   ·simp only
    rw[←HNAME.out.1]
    exact H6.out.2.2.2.mono fun j hj=>HBL.out j (by have:j<lo:=hj;omega) (by have:j<lo:=hj;omega) (by have:j<lo:=hj;omega))
  obtain⟨fn,tmps,assign,bd,hy,hRr⟩:=hY 0 (askF p [qry] pre) O1 (x.1,x.2,nm) #[.slice (some ⟨g,0,none⟩) (k+1) wc,.agg #[.string x.2.al,.string x.2.name,.bool x.2.one,.int .i64 x.2.id,.slice sa x.2.kids.length sc,.string nm,.string gF.name,.string gF.of,.bool gF.list,.bool gF.must,.bool gF.far,.bool gF.hidden,.bool gF.shared,.slice na gF.needs.length nc,.bool kn]] w4 HALL.out.choose_spec.2.2.2.1 (by
   rw[←HNAME.out.2.2.2]
   obtain⟨t,ht⟩:=HWAY.out.2.2.2.2.2
   exact⟨askF p (tyF p [qry] (pre++[x])) t,by rw[←ht,aFM p (pre++[x]) _ t]⟩) HARG.out
  have HRR:=aA0 hRr
  clear hRr
  gi_wp2
  refine(aPO HRR.out).mono ?_
  rintro e B ⟨go,rfl,hTd,hKF⟩
  clear hy cy qc0 qc1 qc2 qc3 qc4 qc5 qc6 qc7 qc8 qc9 qc10 qc11 qc12 qc13 qc14 HRR
  have hkf:KeepsFrom Y.heap.size A B:=by
   obtain⟨W2,-,-,-,-,-,ho4,-⟩:=HALL.out
   exact(ho4.from _).trans ⟨hKF.size,fun k o hk h1 h2=>hKF.same k o (by omega) h1 h2⟩
  rcases hTd with⟨rfl,O',hJB,hkB,hoB⟩| ⟨rfl,hjx⟩
  ·have HN:=aA0 (show Told (fun pre O2 A=>∃O tv,IAs p c0 c1 lo W.heap.size J l pb W.heap.size (W.heap.size+1+1) pre O2 O tv A) Jx O2 pre x A true B by
    obtain⟨W2,-,-,-,-,-,-,hnext⟩:=HALL.out
    exact Or.inl ⟨rfl,hnext B O' (by rw[HNAME.out.2.2.2];exact hJB) hkB hoB⟩)
   clear hJB hkB hoB
   gi_wp2
   exact HN.out
  ·have HX:=aA0 hjx
   clear hjx
   gi_wp2
   exact Or.inr ⟨rfl,HX.out⟩
end Go.Proofs.YtokmgbidmnanpaaGreatDoor
