import Derived.Test.YtokmgbidmnanpaaGreatDoorQ21
import Derived.Test.YtokmgbidmnanpaaGreatDoorQ28
import Derived.Deep.RegionLaw
import Derived.Deep.LoopGhost
import Derived.Deep.DeepCutAuto
set_option linter.unusedSimpArgs false
set_option linter.unusedVariables false
namespace Go.Proofs.YtokmgbidmnanpaaGreatDoor
open Go.RowKit Go.Shelf Go.Maps
def ops(r:List Op):List Value:=r.reverse.flatMap Op.cells
theorem aIX(r:List Op):(ops r).length=r.length*3:=by
 induction r with
 |nil=>rfl
 |cons f r ih=>simp only[ops,List.reverse_cons,List.flatMap_append,List.length_append] at ih ⊢;rw[ih];simp[Op.cells];omega
theorem aGX(f:Op)(r:List Op):ops (f::r)=ops r++f.cells:=by simp[ops]
theorem aNW(f:Op)(r:List Op)(j:Nat):(ops (f::r))[r.length*3+j]?=f.cells[j]?:=by
 rw[aGX,List.getElem?_append_right (by rw[aIX];omega),aIX]
 congr 1;omega
theorem aU3(f:Op)(r:List Op)(j:Nat)(u:Value):(ops (f::r)).set (r.length*3+j) u=ops r++f.cells.set j u:=by
 rw[aGX,List.set_append,if_neg (by rw[aIX];omega),aIX]
 congr 2;omega
theorem aRD{w:World}{base:Nat}{e:TypeId}{g c n:Nat}{xs ys:List Value}(h:w.ownsRow base e 3 (.slice (some ⟨g,0,none⟩) (n+1) c) (n+1) (xs++ys))(hx:xs.length=n*3):w.ownsRow base e 3 (.slice (some ⟨g,0,none⟩) n c) n xs:=by
 refine⟨hx,?_⟩
 rcases h.2 with⟨h',_⟩| ⟨g',c',cur,h',h1,h2,h3,h4,h5,h6⟩
 ·simp at h'
 ·simp only[Value.slice.injEq,Option.some.injEq,Addr.mk.injEq,and_true,true_and] at h'
  obtain⟨rfl,rfl⟩:=h'
  refine .inr ⟨g,c,cur,rfl,h1,h2,by omega,h4,h5,?_⟩
  have:=congrArg (List.take (n*3)) h6
  rw[List.take_take,List.take_append_of_le_length (by omega),Nat.min_eq_left (by omega)] at this
  rw[this,List.take_of_length_le (by omega)]
def OpAt(w0:World)(P:Nat→Prop)(p:Op):Prop:=aAA w0 P p.ks (some ⟨p.b,p.o,none⟩)∧0<p.ks.length∧FitS p.f p.ks∧okTo p.f p.g p.ks p.ks.length=true
theorem OpAt.place{w0:World}{P:Nat→Prop}{p:Op}(h:OpAt w0 P p):P p.b:=by
 obtain⟨⟨-,C,hA,-⟩,h0,-⟩:=h
 obtain⟨b,off,e,hb,-⟩:=hA h0
 simp only[Option.some.injEq,Addr.mk.injEq,and_true] at e
 rw[e.1];exact hb
def aJ9(w0:World)(P:Nat→Prop)(T:List UInt8)(G:Value→Option Value):Prop:=
 ∀kb ko n v,G (pk kb ko n)=some v→∃x y,v=aMD x y∧x≤y∧y≤T.length∧∀f L,L.length=n→FitS f L→aAA w0 P L (some ⟨kb,ko,none⟩)→(T.drop x).take (y- x)=txtL f L
theorem aJ9.more{w0:World}{P:Nat→Prop}{T:List UInt8}{G:Value→Option Value}(h:aJ9 w0 P T G)(t:List UInt8):aJ9 w0 P (T++t) G:=by
 intro kb ko n v hv
 obtain⟨x,y,h1,h2,h3,h4⟩:=h kb ko n v hv
 refine⟨x,y,h1,h2,by simp;omega,fun f L e1 e2 e3=>?_⟩
 rw[←h4 f L e1 e2 e3,List.drop_append_of_le_length (by omega),List.take_append_of_le_length (by simp;omega)]
theorem aJ9.add{w0:World}{P:Nat→Prop}{T:List UInt8}{G G':Value→Option Value}{p:Op}{r:List Op}(h:aJ9 w0 P T G)(hp:OpAt w0 P p)(ho:aFU T [] (p::r))(hd:p.d=p.ks.length)
  (h1:G' (pk p.b p.o p.ks.length)=some (aMD p.x (T++[125]).length)) (h2:∀y,y≠pk p.b p.o p.ks.length→G' y=G y):aJ9 w0 P (T++[125]) G':=by
 intro kb ko n v hv
 by_cases e:pk kb ko n=pk p.b p.o p.ks.length
 ·obtain⟨rfl,rfl,rfl⟩:=aS7 e
  rw[h1] at hv
  obtain⟨-,hx,hle⟩:=ho.pop hd
  refine⟨p.x,_,(Option.some.inj hv).symm,by simp;omega,Nat.le_refl _,fun f L e1 e2 e3=>?_⟩
  have eL:=aPW e3 hp.1 e1
  subst eL
  rw[hx,List.take_of_length_le (by rw[←hx];simp),aSZ e2 hp.2.2.1]
 ·rw[h2 _ e] at hv
  exact h.more [125] kb ko n v hv
structure LS(w0:World)(P:Nat→Prop)(B b mb:Nat)(R:List UInt8)(st:List Op)(T:List UInt8)(G:Value→Option Value)(vo:Value)(w:World):Prop where
 ts:TS w0 P B b mb T vo st.length (ops st) G w
 oo:aFU T [] st
 places:∀p∈ st,OpAt w0 P p
 me:aJ9 w0 P T G
 all:T++aF6 st=R
theorem LS.len{w0:World}{P:Nat→Prop}{B b mb:Nat}{R:List UInt8}{st:List Op}{T:List UInt8}{G:Value→Option Value}{vo:Value}{w:World}(h:LS w0 P B b mb R st T G vo w):T.length+(aF6 st).length=R.length:=by rw[←h.all];simp
theorem TS.read{w0:World}{P:Nat→Prop}{B b mb:Nat}{T:List UInt8}{G:Value→Option Value}{p:Op}{r:List Op}{og oc:Nat}{w:World}(h:TS w0 P B b mb T (.slice (some ⟨og,0,none⟩) (r.length+1) oc) (r.length+1) (ops (p::r)) G w)(q:Nat)(hq:q=r.length):
  w.cell? ⟨og,q*3,none⟩=some (.slice (some ⟨p.b,p.o,none⟩) p.ks.length p.c)∧w.cell? ⟨og,q*3+1,none⟩=some (.int .i64 p.d)∧w.cell? ⟨og,q*3+2,none⟩=some (.int .i64 p.x)∧w.frozen? ⟨og,q*3+1,none⟩=false:=by
 subst hq
 exact⟨(h.row.cellAt (r.length*3) (by omega)).trans (aNW p r 0),(h.row.cellAt (r.length*3+1) (by omega)).trans (aNW p r 1),(h.row.cellAt (r.length*3+2) (by omega)).trans (aNW p r 2),h.row.frozenAt _⟩
theorem TS.tick{w0:World}{P:Nat→Prop}{B b mb:Nat}{T:List UInt8}{G:Value→Option Value}{p:Op}{r:List Op}{og oc:Nat}{w:World}(h:TS w0 P B b mb T (.slice (some ⟨og,0,none⟩) (r.length+1) oc) (r.length+1) (ops (p::r)) G w)(q:Nat)(hq:q=r.length)(d:Nat):
  TS w0 P B b mb T (.slice (some ⟨og,0,none⟩) (r.length+1) oc) (r.length+1) (ops ({ p with d:=d }::r)) G (w.setCell ⟨og,q*3+1,none⟩ (.int .i64 d)):=by
 subst hq
 have hst:=h.row.stored (r.length*3+1) (.int .i64 d)
 have:=h.stored (g:=og) rfl (r.length*3+1) (.int .i64 d) hst.1
 rw[aU3] at this
 rw[aGX]
 simpa[Op.cells] using this
theorem TS.popped{w0:World}{P:Nat→Prop}{B b mb:Nat}{T:List UInt8}{G:Value→Option Value}{p:Op}{r:List Op}{og oc:Nat}{w:World}(h:TS w0 P B b mb T (.slice (some ⟨og,0,none⟩) (r.length+1) oc) (r.length+1) (ops (p::r)) G w)(q:Nat)(hq:q=r.length):
  TS w0 P B b mb T (.slice (some ⟨og,0,none⟩) q oc) r.length (ops r) G w:=by
 subst hq
 have:=h.row
 rw[aGX] at this
 exact⟨h.ask,aRD this (aIX r),h.map,h.bel⟩
set_option maxRecDepth 100000 in
set_option maxHeartbeats 8000000 in
theorem aSU(w0:World)(P:Nat→Prop)(B b mb f g:Nat)(ks:List Se)(w:World)(kb ko kc:Nat)(hT:TS w0 P B b mb [] (.slice none 0 0) 0 [] (fun _=>none) w)(hP:∀b,P b→b<B∧aBK w0 b)(hS:aAA w0 P ks (some ⟨kb,ko,none⟩))(h0:0<ks.length)(hf:FitS f ks)(hok:okTo f g ks ks.length=true)(hR:(txtL f ks).length≤1000)(hTab:Tab B w0)(hB0:B≤w0.heap.size)(hmb:B≤mb):
  Calls Tryz.prog 85 #[.pointer (some ⟨b,0,none⟩),.slice (some ⟨kb,ko,none⟩) ks.length kc] w fun e w'=>e=.returned (.tuple #[])∧AskT B b (.map (some mb)) (txtL f ks) w'∧Below B w0 w':=by
 have hOp:OpAt w0 P ⟨kb,ko,kc,f,g,ks,0,0⟩:=⟨hS,h0,hf,hok⟩
 have hkb:P kb:=hOp.place
 have zB:B≤w.heap.size:=by have:=hT.bel.size;omega
 have HBG:=aA0 (aPH w0 P B b mb [] (.slice none 0 0) 0 [] (fun _=>none) w kb ko ks.length kc hT hP hkb h0 hS.1 rfl (by simp) (by omega) zB)
 obtain⟨R,hRe⟩:∃R,R=txtL f ks:=⟨_,rfl⟩
 rw[←hRe] at hR ⊢
 have HRE:=aA0 hRe
 clear hRe hT
 go_enter Tryz.func85,Tryz.ntmps85
 go_wp2_with fail
 refine HBG.out.mono ?_
 rintro e w1 ⟨vo1,rfl,h1⟩
 have hL1:LS w0 P B b mb R [⟨kb,ko,kc,f,g,ks,0,0⟩] [123] (fun _=>none) vo1 w1:=by
  refine⟨by simpa[ops,Op.cells] using h1,⟨by simp,Nat.zero_le _,by simpa using aFK f ks,trivial⟩,fun p hp=>by simp at hp;subst hp;exact hOp,fun kb ko n v hv=>by simp at hv,?_⟩
  rw[HRE.out]
  simpa[aF6] using aFK f ks
 have HL1:=aA0 hL1
 have hvo:∃a n c,vo1=.slice a n c:=by
  rcases h1.row.2 with⟨hv,_⟩| ⟨g,cap,cur,hv,_⟩
  ·exact⟨_,_,_,hv⟩
  ·exact⟨_,_,_,hv⟩
 obtain⟨va,vn,vc,rfl⟩:=hvo
 clear h1 hL1 HBG
 go_wp2_with fail
 go_loopg [4] (R.length- 1) (fun m vo wr=>∃st T G,m=(aF6 st).length∧Hid (LS w0 P B b mb R st T G vo wr))
 case atStart=>
  refine⟨_,_,_,?_,HL1⟩
  have:=HL1.out.len
  simp at this ⊢
  omega
 case round=>
  obtain⟨st,T,G,rfl,HL⟩:=hrel
  obtain⟨w2,rfl⟩:∃x,x=wr:=⟨wr,rfl⟩
  clear HL1
  cases st with
  |nil=>
   have HA:Hid (T=R):=aA0 (by simpa[aF6] using HL.out.all)
   have hv0:∃a c,u4=.slice a 0 c:=by
    rcases HL.out.ts.row.2 with⟨hv,_⟩| ⟨g,cap,cur,hv,_⟩
    ·exact⟨_,_,hv⟩
    ·exact⟨_,_,hv⟩
   obtain⟨va',vc',rfl⟩:=hv0
   go_wp2_with fail
   go_end0
   refine⟨rfl,?_,HL.out.ts.bel⟩
   have:=HL.out.ts.ask
   rw[HA.out] at this
   exact this
  |cons p r=>
   have hts:=HL.out.ts
   rcases hts.row.2 with⟨-,hz⟩| ⟨og,oc,ocur,rfl,hog1,hog2,hog3,hog4,hog5,-⟩
   ·simp at hz
   have hlen:=HL.out.len
   have hrl:=aN9 (p::r)
   have hOp:=HL.out.places p (by simp)
   obtain⟨hO1,hO2,hO3,hO4⟩:=HL.out.oo
   have HO:=aA0 hO3
   clear hO3 hO4
   have hpl:=hOp.place
   have hpb:=(hP _ hpl).1
   have h72:=hOp.1.1
   have z2:B≤w2.heap.size:=by have:=hts.bel.size;omega
   simp only[List.length_cons] at hts hrl hog3 ⊢
   obtain⟨q,hq⟩:∃q,q=r.length:=⟨_,rfl⟩
   obtain⟨q0,q1,q2,q1f⟩:=hts.read q hq
   rw[←hq] at hrl hog3 ⊢
   have HQ:=aA0 hq
   have HTS:=aA0 hts
   have hqi:(q:Int)≤1000:=by omega
   have hq1:((q+1:Nat):Int)- 1=(q:Int):=by omega
   have hlog:og<w2.heap.size:=(Array.getElem?_eq_some_iff.1 hog2).1
   clear hq hts hog2 hog5
   by_cases hdl:p.d=p.ks.length
   ·have hdi:(p.d:Int)=(p.ks.length:Int):=by omega
    have HDL:=aA0 hdl
    clear hdl
    have HW:=aA0 (fun n=>aHC B b _ T 125 (w2.drewN n) (HTS.out.drew n).ask (by omega) z2)
    go_wp2_with fail
    go_quiet (fail)
    go_wp2_with fail
    refine(HW.out nq).mono ?_
    rintro e w3 ⟨rfl,a3,b3,k3⟩
    have h3:=(HTS.out.drew nq).wrote a3 b3 k3
    have z3:w2.heap.size≤w3.heap.size:=b3.size
    clear q0 q1 q2 q1f
    obtain⟨q0,q1,q2,q1f⟩:=h3.read q HQ.out
    have c2:=h3.ask.map
    have HT3:=aA0 h3
    clear h3 a3 b3 k3 HW
    obtain⟨ln,hln⟩:∃n,n=(T++[125]).length:=⟨_,rfl⟩
    have HN:=aA0 hln
    clear hln
    go_wp2_with fail
    go_cut [] (fun wx=>∃G6,Hid (TS w0 P B b mb (T++[125]) (.slice (some ⟨og,0,none⟩) (r.length+1) oc) (r.length+1) (ops (p::r)) G6 wx)∧Hid (G6 (pk p.b p.o p.ks.length)=some (aMD p.x ln)∧∀y,y≠pk p.b p.o p.ks.length→G6 y=G y))
    case first=>
     go_region_held3 (fun w'=>w'.cell? ⟨b,2,none⟩=some (.map (some mb))∧w'.cell? ⟨og,q*3,none⟩=some (.slice (some ⟨p.b,p.o,none⟩) p.ks.length p.c)∧w'.cell? ⟨og,q*3+2,none⟩=some (.int .i64 p.x)) (go_keep)
      (first
      |(
       go_at_call 125
       refine(aEX w3.drew p.b p.o p.ks.length p.c hOp.2.1 h72).mono ?_
       rintro e w4 ⟨rfl,b4⟩
       have h4:=(HT3.out.drew 1).below (show B≤w3.heap.size by omega) b4
       obtain⟨y0,y1,y2,y1f⟩:=h4.read q HQ.out
       have c24:=h4.ask.map
       have hLn:=lenA B b _ (T++[125]) w4 h4.ask
       rw[←HN.out] at hLn
       have HLn:=aA0 hLn
       clear hLn
       obtain⟨w6,G6,hrun,hG6,hGx,hGo,hgr6⟩:=h4.map.store (keyK (h4.key hP)) aHH ⟨p.b,p.o,p.ks.length,rfl,hpl⟩ (aMD p.x ln)
       simp only[aMD] at hrun
       have h6:=h4.known hmb hgr6 hG6
       obtain⟨v0,v1,v2,v1f⟩:=h6.read q HQ.out
       have c26:=h6.ask.map
       have HT6:=aA0 h6
       have HG6:=aA0 (And.intro hGx hGo)
       clear hGx hGo h4 hG6 h6 hgr6)
      |(
       go_at_call 124
       refine HLn.out.mono ?_
       rintro e w5 ⟨rfl,rfl⟩))
     all_goals
      go_wp2_with fail
      go_meet
      case rel=>exact⟨G6,HT6,HG6⟩
    case rest=>
    obtain⟨G6,HT6,HG6⟩:=hcut
    obtain⟨w6,rfl⟩:∃x,x=wc:=⟨wc,rfl⟩
    have hqo:(q:Int)≤(oc:Int):=by omega
    clear q0 q1 q2 q1f c2
    go_wp2_with fail
    go_roundg ((aF6 r).length)
    case measure=>simp[aF6,aC7];omega
    case rel=>
     have hOO:=HL.out.oo
     refine⟨r,T++[125],G6,rfl,aA0 ⟨?_,(hOO.pop HDL.out).1,fun p' hp'=>HL.out.places p' (by simp[hp']),HL.out.me.add hOp hOO HDL.out (by rw[HG6.out.1,HN.out]) HG6.out.2,?_⟩⟩
     ·exact HT6.out.popped q HQ.out
     ·rw[←HL.out.all]
      simp[aF6,HDL.out,aKX]
   ·have hdlt:p.d<p.ks.length:=by omega
    have hdi:¬(p.d:Int)=(p.ks.length:Int):=by omega
    have hdi2:(p.d:Int)<(p.ks.length:Int):=by omega
    have hksi:(p.ks.length:Int)≤3909374954316:=by omega
    clear hdl
    obtain⟨f',hf'⟩:∃f',p.f=f'+1:=by
     cases hpf:p.f with
     |zero=>
      have h1:=hOp.2.2.1
      rw[hpf] at h1
      have h2:p.ks=[]:=h1
      rw[h2] at hdlt;simp at hdlt
     |succ f'=>exact⟨f',rfl⟩
    have hOk:=hOp.2.2.2
    rw[hf'] at hOk
    have hAt:=aRN hOk hdlt
    have hFt:FitS f' (sth p.ks p.d).kids:=by
     have h1:=hOp.2.2.1
     rw[hf'] at h1
     exact h1 p.d hdlt
    have hNx:=aOA f' p.ks p.d hdlt
    rw[←hf'] at hNx
    obtain⟨-,C,hA,hr⟩:=hOp.1
    obtain⟨pb,po,epa,-,hc⟩:=hA (by omega)
    simp only[Option.some.injEq,Addr.mk.injEq,and_true] at epa
    obtain⟨rfl,rfl⟩:=epa
    obtain⟨sa,sc,e0,e1,e2,e3,e4,hal,hnm,hKids⟩:=(hr p.d hdlt).pieces
    have hcw:∀j,j<5→w2.cell? ⟨p.b,p.o+p.d*5+j,none⟩=some (C p.d j):=fun j hj=>(HTS.out.bel.cell (p:=⟨p.b,p.o+p.d*5+j,none⟩) hpb).trans (hc p.d hdlt j hj)
    have r0:w2.cell? ⟨p.b,p.o+p.d*5,none⟩=some (.string (sth p.ks p.d).al):=e0▸hcw 0 (by omega)
    have r1:w2.cell? ⟨p.b,p.o+p.d*5+1,none⟩=some (.string (sth p.ks p.d).name):=e1▸hcw 1 (by omega)
    have r2:w2.cell? ⟨p.b,p.o+p.d*5+2,none⟩=some (.bool (sth p.ks p.d).one):=e2▸hcw 2 (by omega)
    have r3:w2.cell? ⟨p.b,p.o+p.d*5+3,none⟩=some (.int .i64 (sth p.ks p.d).id):=e3▸hcw 3 (by omega)
    have r4:w2.cell? ⟨p.b,p.o+p.d*5+4,none⟩=some (.slice sa (sth p.ks p.d).kids.length sc):=e4▸hcw 4 (by omega)
    clear hcw hc hr hA e0 e1 e2 e3 e4 hal hnm hOk
    generalize sth p.ks p.d=s at*
    have HNX:=aA0 hNx
    have HAT:=aA0 (And.intro hAt hFt)
    have HKD:=aA0 hKids
    have HF':=aA0 hf'
    clear hNx hAt hFt hKids hf'
    go_wp2_with fail
    go_quiet (fail)
    go_wp2_with fail
    obtain⟨w3,hw3,s0,s1,t0,t1,t2,t3,t4,z3,HT3⟩:∃x,w2.drewN nq=x∧x.cell? ⟨og,q*3,none⟩=some (.slice (some ⟨p.b,p.o,none⟩) p.ks.length p.c)∧x.cell? ⟨og,q*3+1,none⟩=some (.int .i64 p.d)∧x.cell? ⟨p.b,p.o+p.d*5,none⟩=some (.string s.al)∧x.cell? ⟨p.b,p.o+p.d*5+1,none⟩=some (.string s.name)∧x.cell? ⟨p.b,p.o+p.d*5+2,none⟩=some (.bool s.one)∧x.cell? ⟨p.b,p.o+p.d*5+3,none⟩=some (.int .i64 s.id)∧x.cell? ⟨p.b,p.o+p.d*5+4,none⟩=some (.slice sa s.kids.length sc)∧w2.heap.size≤x.heap.size∧Hid (TS w0 P B b mb T (.slice (some ⟨og,0,none⟩) (r.length+1) oc) (r.length+1) (ops (p::r)) G x):=⟨_,rfl,q0,q1,r0,r1,r2,r3,r4,Nat.le_refl _,aA0 (HTS.out.drew nq)⟩
    rw[hw3]
    clear hw3 q0 q1 q2 q1f r0 r1 r2 r3 r4 HTS
    go_cut [6] (fun a wx=>a=.pointer (some ⟨w3.heap.size,0,none⟩)∧wx.heap[w3.heap.size]?=some (.cells #[.string s.al,.string s.name,.bool s.one,.int .i64 s.id,.slice sa s.kids.length sc] 56 (0,0))∧Hid (TS w0 P B b mb T (.slice (some ⟨og,0,none⟩) (r.length+1) oc) (r.length+1) (ops (p::r)) G wx))
    case first=>
     have hal:∀(o:Obj) (k i:Nat) (v:Value),k<w3.heap.size→w3.cell? ⟨k,i,none⟩=some v→(w3.alloc o).cell? ⟨k,i,none⟩=some v:=fun o k i v hk h=>((aA2 w3 o).cell (p:=⟨k,i,none⟩) hk).trans h
     have m0:=fun o=>hal o _ _ _ (by omega) s0
     have m1:=fun o=>hal o _ _ _ (by omega) s1
     have k0:=fun o=>hal o _ _ _ (by omega) t0
     have k1:=fun o=>hal o _ _ _ (by omega) t1
     have k2:=fun o=>hal o _ _ _ (by omega) t2
     have k3:=fun o=>hal o _ _ _ (by omega) t3
     have k4:=fun o=>hal o _ _ _ (by omega) t4
     clear hal
     go_region
     all_goals
      go_wp2_with fail
      go_meet
      case rel=>exact⟨rfl,aA3 _ _ rfl,aA0 ((HT3.out.below (by omega) (aA2 w3 _)).drew 1)⟩
    case rest=>
    obtain⟨rfl,nB,HTa⟩:=hcut
    obtain⟨wa,rfl⟩:∃x,x=wc:=⟨wc,rfl⟩
    have hlb:b<w2.heap.size:=HL.out.ts.ask.lt
    have zb:w3.heap.size≠b:=by omega
    have za:w3.heap.size<wa.heap.size:=(Array.getElem?_eq_some_iff.1 nB).1
    clear s0 s1 t0 t1 t2 t3 t4
    obtain⟨q0,q1,q2,q1f⟩:=HTa.out.read q HQ.out
    have HCm:=aA0 (aNT B b _ T p.d (wa.drewN 1) (HTa.out.drew 1).ask (by omega) (by omega) (show B≤wa.heap.size by omega))
    go_wp2_with fail
    go_region_with (
     go_at_call 126
     refine HCm.out.mono ?_
     rintro e w4 ⟨rfl,a4,b4,k4⟩
     have h4:=(HTa.out.drew 1).wrote a4 b4 k4
     have z4:wa.heap.size≤w4.heap.size:=b4.size
     have nB4:=k4.block (show(wa.drewN 1).heap[w3.heap.size]?=_ from nB) zb aSB
     have HT4:=aA0 h4
     clear q0 q1 q2 q1f
     obtain⟨q0,q1,q2,q1f⟩:=h4.read q HQ.out
     clear h4 a4 b4 k4)
    all_goals
     have nB5:∀v,(w4.setCell ⟨og,q*3+1,none⟩ v).heap[w3.heap.size]?=some (.cells #[.string s.al,.string s.name,.bool s.one,.int .i64 s.id,.slice sa s.kids.length sc] 56 (0,0)):=fun v=>(Below.heap_setCell _ _ _ _ (by show w3.heap.size≠og;omega)).trans nB4
     have v0:=fun v=>(aA1 (nB5 v) 0 (by simp)).1
     have v1:=fun v=>(aA1 (nB5 v) 1 (by simp)).1
     have v2:=fun v=>(aA1 (nB5 v) 2 (by simp)).1
     have v3:=fun v=>(aA1 (nB5 v) 3 (by simp)).1
     have v4:=fun v=>(aA1 (nB5 v) 4 (by simp)).1
     have h5:=HT4.out.tick q HQ.out (p.d+1)
     rw[show(((p.d+1:Nat):Nat):Int)=(p.d:Int)+1 by omega] at h5
     obtain⟨l5,hl5⟩:∃x,x=T++(if p.d=0 then[] else[44]):=⟨_,rfl⟩
     have hl5n:l5.length≤1001:=by rw[hl5];simp only[List.length_append];split<;>simp<;>omega
     rw[←hl5] at h5
     have HL5:=aA0 hl5
     clear hl5
     have HFd:=aA0 (aUJ B b _ l5 s _ (.slice sa s.kids.length sc) h5.ask (by omega) HAT.out.1.1 (by simp;omega) (by simp;omega) (hTab.on h5.bel) ⟨_,_,_,rfl⟩)
     have nB5':=nB5 (.int .i64 ((p.d:Int)+1))
     have HT5:=aA0 h5
     clear h5 nB5 nB4
     go_wp2_with fail
     refine HFd.out.mono ?_
     rintro e w6 ⟨rfl,a6,b6,k6⟩
     have h6:=HT5.out.wrote a6 b6 k6
     have z6:w4.heap.size≤w6.heap.size:=by have:=b6.size;simpa using this
     have nB6:=k6.block nB5' zb aSB
     have y4:=(aA1 nB6 4 (by simp)).1
     obtain⟨X,hX⟩:∃X,X=(if p.d=0 then[] else[44])++aHM s:=⟨_,rfl⟩
     rw[HL5.out,List.append_assoc,←hX,←HQ.out] at h6
     have hXp:0<X.length:=by rw[hX,List.length_append];have:=aRM HAT.out.1.1;omega
     have hXn:X.length≤26:=by
      rw[hX,List.length_append]
      have:=aN5 HAT.out.1.1
      have e1:(if p.d=0 then([]:List UInt8) else[44]).length≤1:=by split<;>simp
      omega
     have hNx:=HNX.out
     rw[←hX] at hNx
     have HX:=aA0 hNx
     have HT6:=aA0 h6
     clear h6 a6 b6 k6 HFd v0 v1 v2 v3 v4 hX hNx
     by_cases hk0:s.kids=[]
     ·have hkl:s.kids.length=0:=by rw[hk0];rfl
      have HK:Hid (aC7 p.f p.ks p.d=X++aC7 p.f p.ks (p.d+1)):=aA0 (by rw[HX.out,hk0];simp)
      have HLS:Hid (LS w0 P B b mb R ({ p with d:=p.d+1 }::r) (T++X) G (.slice (some ⟨og,0,none⟩) (q+1) oc) w6):=aA0 (by
       have h6:=HT6.out
       refine⟨?_,HL.out.oo.step hdlt HK.out,fun p' hp'=>?_,HL.out.me.more X,?_⟩
       ·simp only[List.length_cons]
        rw[HQ.out] at h6 ⊢
        exact h6
       ·rcases List.mem_cons.1 hp' with rfl| hp'
        ·exact hOp
        ·exact HL.out.places p' (by simp[hp'])
       ·rw[←HL.out.all]
        simp only[aF6]
        rw[HK.out]
        simp)
      have hn1:=HLS.out.len
      clear hk0
      go_wp2_with fail
      go_roundg ((aF6 ({ p with d:=p.d+1 }::r)).length)
      case measure=>simp only[List.length_append] at hn1;omega
      case rel=>exact⟨_,_,_,rfl,HLS⟩
     ·have hkl:0<s.kids.length:=List.length_pos_iff.2 hk0
      have hkli:(0:Int)<(s.kids.length:Int):=by omega
      have HK:Hid (aC7 p.f p.ks p.d=X++(txtL f' s.kids++aC7 p.f p.ks (p.d+1))):=aA0 (by
       rw[HX.out]
       have:s.kids.isEmpty=false:=by cases hs:s.kids with
        |nil=>exact absurd hs hk0
        |cons a l=>rfl
       rw[this];simp)
      obtain⟨hk72,Ck,hAk,hrk⟩:=HKD.out
      obtain⟨kb',ko',rfl,hkP,-⟩:=hAk hkl
      clear hk0 hAk hrk
      have z6B:B≤w6.heap.size:=by omega
      have hTX:(T++X).length≤1026:=by rw[List.length_append];omega
      cases hG:G (pk kb' ko' s.kids.length) with
      |none=>
       have HBG:=aA0 (aPH w0 P B b mb (T++X) _ (q+1) _ G w6 kb' ko' s.kids.length sc HT6.out hP hkP hkl hk72 hG (by omega) (by omega) z6B)
       clear hG
       go_wp2_with fail
       refine HBG.out.mono ?_
       rintro e w7 ⟨vo7,rfl,h7⟩
       have HLS:Hid (LS w0 P B b mb R (⟨kb',ko',sc,f',p.g+1,s.kids,0,(T++X).length⟩::{ p with d:=p.d+1 }::r) (T++X++[123]) G vo7 w7):=aA0 (by
        refine⟨?_,HL.out.oo.push hdlt HK.out rfl rfl,fun p' hp'=>?_,(HL.out.me.more X).more [123],?_⟩
        ·simp only[List.length_cons]
         rw[HQ.out] at h7
         rw[aGX]
         exact h7
        ·rcases List.mem_cons.1 hp' with rfl| hp'
         ·exact⟨HKD.out,hkl,HAT.out.2,HAT.out.1.2⟩
         ·rcases List.mem_cons.1 hp' with rfl| hp'
          ·exact hOp
          ·exact HL.out.places p' (by simp[hp'])
        ·rw[←HL.out.all]
         simp only[aF6]
         rw[HK.out,←aFK f' s.kids]
         simp)
       have hn1:=HLS.out.len
       have hvo:∃a n c,vo7=.slice a n c:=by
        rcases h7.row.2 with⟨hv,_⟩| ⟨g,cap,cur,hv,_⟩
        ·exact⟨_,_,_,hv⟩
        ·exact⟨_,_,_,hv⟩
       obtain⟨a7,n7,c7,rfl⟩:=hvo
       clear h7 HBG
       go_wp2_with fail
       go_roundg ((aF6 (⟨kb',ko',sc,f',p.g+1,s.kids,0,(T++X).length⟩::{ p with d:=p.d+1 }::r)).length)
       case measure=>
        have hn2:(T++X++[(123:UInt8)]).length=T.length+X.length+1:=by simp;omega
        rw[hn2] at hn1
        omega
       case rel=>exact⟨_,_,_,rfl,HLS⟩
      |some v=>
       obtain⟨x,y,rfl,hxy,hyT,hme⟩:=(HL.out.me.more X) kb' ko' s.kids.length v hG
       have hme':=hme f' s.kids rfl HAT.out.2 HKD.out
       have HBG:=aA0 (aQQ w0 P B b mb (T++X) _ (q+1) _ G w6 kb' ko' s.kids.length sc x y HT6.out hP hkP hkl hk72 hG hxy hyT (by omega) (by rw[List.length_append];omega) z6B)
       rw[hme'] at HBG
       clear hG hme hme' hyT
       go_wp2_with fail
       refine HBG.out.mono ?_
       rintro e w7 ⟨rfl,h7⟩
       have HLS:Hid (LS w0 P B b mb R ({ p with d:=p.d+1 }::r) (T++(X++txtL f' s.kids)) G (.slice (some ⟨og,0,none⟩) (q+1) oc) w7):=aA0 (by
        refine⟨?_,HL.out.oo.step hdlt (by rw[HK.out];simp),fun p' hp'=>?_,HL.out.me.more _,?_⟩
        ·simp only[List.length_cons]
         rw[HQ.out] at h7 ⊢
         rw[←List.append_assoc]
         exact h7
        ·rcases List.mem_cons.1 hp' with rfl| hp'
         ·exact hOp
         ·exact HL.out.places p' (by simp[hp'])
        ·rw[←HL.out.all]
         simp only[aF6]
         rw[HK.out]
         simp)
       have hn1:=HLS.out.len
       clear h7 HBG
       go_wp2_with fail
       go_roundg ((aF6 ({ p with d:=p.d+1 }::r)).length)
       case measure=>simp only[List.length_append] at hn1;omega
       case rel=>exact⟨_,_,_,rfl,HLS⟩
end Go.Proofs.YtokmgbidmnanpaaGreatDoor
