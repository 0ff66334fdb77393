import Derived.Test.YtokmgbidmnanpaaGreatDoorQ24
import Derived.Deep.RegionHeld3
import Derived.Deep.DeepCutAuto
import Derived.BigRegion
import Derived.Test.YtokmgbidmnanpaaGreatDoorQ23
set_option linter.unusedSimpArgs false
set_option linter.unusedVariables false
namespace Go.Proofs.YtokmgbidmnanpaaGreatDoor
open Go.RowKit Go.Maps
attribute [local go_sem] Oper.semAt_some
theorem aUX:(Tryz.prog.info? 43).map (fun i=>(i.zero,i.size,i.bytes))=some (some (.agg #[.string ByteArray.empty,.slice none 0 0]),2,40):=by kernel_rfl
theorem PSt.start{w wx:World}{rb cb q:Nat}(hr:RdOk wx rb cb q)(ho:Only (·=rb) w wx)(h1:rb<w.heap.size)(h2:cb<w.heap.size)(hz:w.heap.size≤wx.heap.size):
  PSt w rb cb 0 (wx.alloc (.cells #[] 43)) (fun _=>none) 0 q wx.heap.size 0 []:=
 ⟨hr.only (Only.of_below (fun _=>False) (aA2 _ _)) id id,Wf.nil _ _,(fun _ _ _ h=>by cases h),⟨rfl,Or.inr ⟨wx.heap.size,0,#[],rfl,hz,aA3 _ _ rfl,Nat.le_refl _,Nat.zero_le _,rfl,rfl⟩⟩,rfl,(fun p hp=>by simp at hp),rfl,ho.alloc _,h1,h2⟩
theorem PSt.push{w:World}{rb cb k:Nat}{w2 wP:World}{σ:Sh}{q pb pc g cap:Nat}{ps:List Pv}(h:PSt w rb cb k w2 σ 0 q pb pc ps)(fn nm:ByteArray)(hfn:fn.size≤12)(hnm:nm.size≤12)(W3:World)
  (hW3:W3=(((w2.alloc (.cells #[.string fn,.string ⟨#[105,110,116]⟩,.bool false,.bool false,.bool false,.bool false,.bool false,.slice none 0 0] 54)).alloc (.cells #[.string ⟨#[113,117,101,114,121]⟩,.string ⟨#[]⟩,.slice (some ⟨w2.heap.size,0,none⟩) 1 1] 52)).alloc (.cells #[.string nm,.slice (some ⟨w2.heap.size+1,0,none⟩) 1 1] 43)))
  (hown:wP.ownsRow w.heap.size 43 2 (.slice (some ⟨g,0,none⟩) (k+1) cap) (k+1) (aGC ps++[.string nm,.slice (some ⟨w2.heap.size+1,0,none⟩) 1 1])) (hgr:W3.grownBy wP (Value.slice (some ⟨pb,0,none⟩) k pc).ownBlock) (hg0:(Value.slice (some ⟨pb,0,none⟩) k pc).ownBlock=some g∨g=W3.heap.size):
  PSt w rb cb (k+1) wP ((σ.add w2.heap.size 54 1).add (w2.heap.size+1) 52 1) 0 q g cap (ps++[⟨nm,w2.heap.size+1,1,1⟩]):=by
 have hg:g=pb∨g=W3.heap.size:=hg0.imp (fun e=>(Option.some.inj e).symm) id
 have hgr:W3.grownBy wP (some pb):=hgr
 have b3:Below w2.heap.size w2 W3:=by rw[hW3];exact(aA5 _ _ _).alloc (by simp;omega) _
 have z3:W3.heap.size=w2.heap.size+1+1+1:=by rw[hW3];simp
 have h3:=h.below b3
 have hpl:=h.plt
 have hrl:=h.rlt
 have hcl:=h.clt
 have hwz:=h.only.size
 have kF:W3.heap[w2.heap.size]?=some (.cells #[.string fn,.string ⟨#[105,110,116]⟩,.bool false,.bool false,.bool false,.bool false,.bool false,.slice none 0 0] 54 (0,0)):=by
  rw[hW3,(aA5 _ _ _).block _ (by simp)];exact aA3 _ _ rfl
 have kT:W3.heap[w2.heap.size+1]?=some (.cells #[.string ⟨#[113,117,101,114,121]⟩,.string ⟨#[]⟩,.slice (some ⟨w2.heap.size,0,none⟩) 1 1] 52 (0,0)):=by
  rw[hW3,(aA2 _ _).block _ (by simp)];exact aA3 _ _ (by simp)
 have nF:σ w2.heap.size=none:=h.wf.fresh (Nat.le_refl _)
 have nT:(σ.add w2.heap.size 54 1) (w2.heap.size+1)=none:=by rw[Sh.add_ne _ _ _ _ _ (by omega)];exact h.wf.fresh (by omega)
 have W1:Wf W3 (σ.add w2.heap.size 54 1) (bdP 0):=h3.wf.add nF kF rfl (aFB rfl (aAE _ _ fn ⟨#[105,110,116]⟩ false false false false false _ hfn (by decide) (aC2 _ _ _)))
 have W2:Wf W3 ((σ.add w2.heap.size 54 1).add (w2.heap.size+1) 52 1) (bdP 0):=W1.add nT kT rfl (aFB rfl (aD8 _ _ ⟨#[113,117,101,114,121]⟩ ⟨#[]⟩ _ (by decide) (fun _=>by simp[aAF,isT,ByteArray.toList_eq]) (by decide) ⟨_,1,1,rfl,by decide,Nat.le_refl _,by simp[maxLen],Or.inr ⟨_,rfl,Sh.add_self _ _ _ _⟩⟩))
 have he:Ext σ ((σ.add w2.heap.size 54 1).add (w2.heap.size+1) 52 1):=(Sh.add_ext nF).trans (Sh.add_ext nT)
 have npb:((σ.add w2.heap.size 54 1).add (w2.heap.size+1) 52 1) pb=none:=by rw[Sh.add_ne _ _ _ _ _ (by omega),Sh.add_ne _ _ _ _ _ (by omega)];exact h.npb
 have hk:∀x,x<W3.heap.size→x≠pb→wP.heap[x]?=W3.heap[x]?:=fun x hx hn=>hgr.block x hx (fun e=>hn (Option.some.inj e))
 refine⟨h3.rd.keep (hk rb (by omega) (by omega)) (hk cb (by omega) (by omega)) hgr.size,W2.keep fun b T m hb=>hk b (W2.lt hb) (fun e=>by subst e;rw[npb] at hb;cases hb),fun b T m hb=>?_,by rw[aM5];exact hown,by simp[h.len],fun p hp=>?_,?_,h3.only.grown hgr (fun x hx=>by cases hx;exact Or.inr hpl.1),hrl,hcl⟩
 ·unfold Sh.add at hb
  split at hb
  ·omega
  ·split at hb
   ·omega
   ·exact h.new b T m hb
 ·rcases List.mem_append.1 hp with hp| hp
  ·exact(h.ok p hp).ext he (Nat.le_refl _)
  ·obtain rfl:p=⟨nm,w2.heap.size+1,1,1⟩:=by simpa using hp
   exact⟨hnm,Nat.le_refl _,Nat.le_refl _,Nat.le_refl _,by simp[maxLen],Sh.add_self _ _ _ _⟩
 ·rcases hg with rfl| rfl
  ·exact npb
  ·exact W2.fresh (Nat.le_refl _)
theorem PSt.join{w:World}{rb cb n:Nat}{wx wy:World}{σ σL:Sh}{q pb pc tb:Nat}{ps:List Pv}(h:PSt w rb cb n wx σ 0 q pb pc ps)(hL:Wf wy σL bdL)(hb:σL tb=some (52,4))(hn:∀b T m,σL b=some (T,m)→wx.heap.size≤b)(hy:Below wx.heap.size wx wy):
  ∃σ',RSt w rb cb n wy σ' σL 0 q pb pc tb ps:=by
 have hp:=h.below hy
 have hz:=h.only.size
 have hpl:=h.plt
 let σ':Sh:=fun b=>match σL b with
  |some (T,m)=>if T=9 then some (9,m) else σ b
  |none=>σ b
 have e1:∀b m,σL b=some (9,m)→σ' b=some (9,m):=fun b m h=>by simp only[σ',h,if_pos]
 have e2:∀b T m,σL b=some (T,m)→T≠9→σ' b=σ b:=fun b T m h hT=>by simp only[σ',h,if_neg hT]
 have e3:∀b,σL b=none→σ' b=σ b:=fun b h=>by simp only[σ',h]
 have he:Ext σ σ':=fun b T m hb=>by
  have hlt:=h.wf.lt hb
  cases e:σL b with
  |none=>rw[e3 b e];exact hb
  |some x=>obtain⟨T',m'⟩:=x;have:=hn b T' m' e;omega
 have hcase:∀b T m,σ' b=some (T,m)→σ b=some (T,m)∨(T=9∧σL b=some (9,m)):=fun b T m hb=>by
  cases e:σL b with
  |none=>rw[e3 b e] at hb;exact Or.inl hb
  |some x=>
   obtain⟨T',m'⟩:=x
   by_cases hT:T'=9
   ·subst hT;rw[e1 b m' e] at hb;cases hb;exact Or.inr ⟨rfl,rfl⟩
   ·rw[e2 b T' m' e hT] at hb;exact Or.inl hb
 refine⟨σ',⟨hp.rd,fun b T m hb=>?_,fun b T m hb=>?_,hp.own,hp.len,fun p hq=>(hp.ok p hq).ext he (Nat.le_refl _),?_,hp.only,hp.rlt,hp.clt⟩,hL,hb,fun b T m hb=>by have:=hn b T m hb;omega,e1,fun b T m hb hT=>⟨?_,?_⟩⟩
 ·rcases hcase b T m hb with h1| ⟨rfl,h1⟩
  ·obtain⟨cur,k1,k2,k3⟩:=hp.wf b T m h1
   exact⟨cur,k1,k2,fun k v hv=>(k3 k v hv).ext he (Bd.le.refl _)⟩
  ·obtain⟨cur,k1,k2,k3⟩:=hL b 9 m h1
   refine⟨cur,k1,k2,fun k v hv=>?_⟩
   have:=k3 k v hv
   simpa[aA7] using this
 ·rcases hcase b T m hb with h1| ⟨rfl,h1⟩
  ·exact h.new b T m h1
  ·have:=hn b 9 m h1;omega
 ·cases e:σ' pb with
  |none=>rfl
  |some x=>
   obtain⟨T,m⟩:=x
   rcases hcase pb T m e with h1| ⟨rfl,h1⟩
   ·rw[h.npb] at h1;cases h1
   ·have:=hn pb 9 m h1;omega
 ·rw[e2 b T m hb hT]
  exact h.wf.fresh (hn b T m hb)
 ·have:=hn b T m hb;omega
def aUD(fn fo:ByteArray)(l m fr hd sh:Bool)(na:Option Addr)(nl nc:Nat):Array Value:=#[.string fn,.string fo,.bool l,.bool m,.bool fr,.bool hd,.bool sh,.slice na nl nc]
structure RF(w:World)(rb cb n:Nat)(σL:Sh)(pb pc tb fx:Nat)(wx:World)(σ:Sh)(c q:Nat)(ps:List Pv)(fn fo:ByteArray)(l m fr hd sh:Bool)(na:Option Addr)(nl nc:Nat):Prop where
 r:RSt w rb cb n wx σ σL c q pb pc tb ps
 f:FBx w wx σ pb fx (aUD fn fo l m fr hd sh na nl nc)
 nL:σL fx=none
 sl:SlOk σ 9 1 (.slice na nl nc)
section
variable {w:World} {rb cb n:Nat} {σL:Sh} {pb pc tb fx:Nat} {wx wy:World} {σ:Sh} {c q q':Nat} {ps:List Pv} {fn fo:ByteArray} {l m fr hd sh:Bool} {na:Option Addr} {nl nc:Nat}
theorem RF.move(h:RF w rb cb n σL pb pc tb fx wx σ c q ps fn fo l m fr hd sh na nl nc)(hr:RdOk wy rb cb q')(ho:Only (·=rb) wx wy):RF w rb cb n σL pb pc tb fx wy σ c q' ps fn fo l m fr hd sh na nl nc:=
 ⟨h.r.move hr ho,h.f.move h.r.p.rlt ho,h.nL,h.sl⟩
theorem RF.setH(h:RF w rb cb n σL pb pc tb fx wx σ c q ps fn fo l m fr hd sh na nl nc)(b:Bool):RF w rb cb n σL pb pc tb fx (wx.setCell ⟨fx,5,none⟩ (.bool b)) σ c q ps fn fo l m fr b sh na nl nc:=
 ⟨⟨h.r.p.setF h.f 5 _,h.r.l.setF h.f h.nL 5 _⟩,h.f.set 5 (.bool b),h.nL,h.sl⟩
theorem RF.setS(h:RF w rb cb n σL pb pc tb fx wx σ c q ps fn fo l m fr hd sh na nl nc)(b:Bool):RF w rb cb n σL pb pc tb fx (wx.setCell ⟨fx,6,none⟩ (.bool b)) σ c q ps fn fo l m fr hd b na nl nc:=
 ⟨⟨h.r.p.setF h.f 6 _,h.r.l.setF h.f h.nL 6 _⟩,h.f.set 6 (.bool b),h.nL,h.sl⟩
theorem RF.drew(h:RF w rb cb n σL pb pc tb fx wx σ c q ps fn fo l m fr hd sh na nl nc):RF w rb cb n σL pb pc tb fx wx.drew σ c q ps fn fo l m fr hd sh na nl nc:=
 h.move (h.r.p.rd.keep rfl rfl (Nat.le_refl _)) ⟨rfl,rfl,rfl,Nat.le_refl _,fun _ _ _=>rfl⟩
theorem RF.cell(h:RF w rb cb n σL pb pc tb fx wx σ c q ps fn fo l m fr hd sh na nl nc):wx.cell? ⟨fx,0,none⟩=some (.string fn)∧wx.cell? ⟨fx,1,none⟩=some (.string fo)∧wx.cell? ⟨fx,2,none⟩=some (.bool l)∧wx.cell? ⟨fx,3,none⟩=some (.bool m)∧wx.cell? ⟨fx,4,none⟩=some (.bool fr)∧wx.cell? ⟨fx,5,none⟩=some (.bool hd)∧wx.cell? ⟨fx,6,none⟩=some (.bool sh)∧wx.cell? ⟨fx,7,none⟩=some (.slice na nl nc)∧wx.frozen? ⟨fx,5,none⟩=false∧wx.frozen? ⟨fx,6,none⟩=false:=by
 have hb:=h.f.box
 unfold aUD at hb
 exact⟨(aA1 hb 0 (by simp)).1,(aA1 hb 1 (by simp)).1,(aA1 hb 2 (by simp)).1,(aA1 hb 3 (by simp)).1,(aA1 hb 4 (by simp)).1,(aA1 hb 5 (by simp)).1,(aA1 hb 6 (by simp)).1,(aA1 hb 7 (by simp)).1,(aA1 hb 5 (by simp)).2,(aA1 hb 6 (by simp)).2⟩
theorem RSt.box(h:RSt w rb cb n wx σ σL c q pb pc tb ps)(hsl:SlOk σ 9 1 (.slice na nl nc))(hx:wx.heap.size=fx):RF w rb cb n σL pb pc tb fx (wx.alloc (.cells #[.string fn,.string fo,.bool l,.bool m,.bool fr,.bool hd,.bool sh,.slice na nl nc] 54)) σ c q ps fn fo l m fr hd sh na nl nc:=by
 subst hx
 obtain⟨h1,h2,h3,h4⟩:=h.fresh (Nat.le_refl wx.heap.size)
 exact⟨h.below (aA2 _ _),⟨aA3 _ _ rfl,h1,h3,h4⟩,h2,hsl⟩
theorem RF.give(h:RF w rb cb n σL pb pc tb fx wx σ c q ps fn fo l m fr hd sh na nl nc)(hc:c≤1000){i:Nat}(hi:i<n){p:Pv}(hp:PvOk σ (bdP c) p){nm:ByteArray}(hnm:nm.size≤12)(hsc:aAF nm=false)(hfn:fn.size≤12)(hfo:fo.size≤12):
  Calls Tryz.prog 100 #[.agg #[.string p.s,.slice (some ⟨p.b,0,none⟩) p.len p.cap],.string nm,.agg #[.string fn,.string fo,.bool l,.bool m,.bool fr,.bool hd,.bool sh,.slice na nl nc]] wx fun e wy=>∃(p':Pv) (σ':Sh),e=.returned (.agg #[.string p'.s,.slice (some ⟨p'.b,0,none⟩) p'.len p'.cap])∧(∃v0 v1,wy.cell? ⟨pb,i*2,none⟩=some v0∧wy.cell? ⟨pb,i*2+1,none⟩=some v1∧wy.frozen? ⟨pb,i*2,none⟩=false∧wy.frozen? ⟨pb,i*2+1,none⟩=false)∧
   Hid (RF w rb cb n σL pb pc tb fx ((wy.setCell ⟨pb,i*2,none⟩ (.string p'.s)).setCell ⟨pb,i*2+1,none⟩ (.slice (some ⟨p'.b,0,none⟩) p'.len p'.cap)) σ' (c+1) q (ps.set i p') fn fo l m fr hd sh na nl nc∧wy.heap[tb]?=wx.heap[tb]?∧tb≠pb∧wy.heap[fx]?=wx.heap[fx]?∧fx≠pb):=by
 refine(aRB h.r hc hi hp hnm hsc hfn hfo h.sl).mono ?_
 rintro e wy ⟨p',σ',rfl,h1,h2⟩
 obtain⟨g1,g2,g3,g4,g5⟩:=h2.out
 exact⟨p',σ',rfl,h1,⟨⟨g1,g2 _ _ h.f,h.nL,h.sl.ext g3 (Nat.le_refl _)⟩,(g4 _ _ _ h.r.l.blk).1,(g4 _ _ _ h.r.l.blk).2,g5 _ _ h.f,h.f.ne⟩⟩
end
end Go.Proofs.YtokmgbidmnanpaaGreatDoor
namespace Go.Proofs.YtokmgbidmnanpaaGreatDoor
open Go.RowKit
set_option maxHeartbeats 400000 in
theorem aK3(s:Se)(w:World)(v2 v3 v4:Value):
  Calls Tryz.prog 92 #[.agg #[.string s.al,.string s.name,v2,v3,v4]] w fun e w'=>e=.returned (.string (keyS s))∧Below w.heap.size w w':=by
 have HK:Hid (∀b,s.al.toList.isEmpty=b→keyS s=if b=true then s.name else s.al):=fun b hb=>by unfold keyS;rw[hb]
 cases he:s.al.toList.isEmpty
 ·go_enter Tryz.func92,Tryz.ntmps92
  go_wp2_with fail
  go_ret
  exact⟨by rw[HK.out false he];rfl,aA2 w _⟩
 ·go_enter Tryz.func92,Tryz.ntmps92
  go_wp2_with fail
  go_ret
  exact⟨by rw[HK.out true he];rfl,aA2 w _⟩
theorem aS2{s:ByteArray}(h:aAO s=true):s.toList.isEmpty=false:=by
 simp only[aAO,aE3,Bool.and_eq_true,decide_eq_true_eq] at h
 have h1:1≤s.size:=h.1.1.1.1.1.1.1.1.1.1.1.1.1
 have h2:=aC3 s
 cases e:s.toList with
 |nil=>rw[e] at h2;simp at h2;omega
 |cons a l=>rfl
set_option maxRecDepth 20000 in
set_option maxHeartbeats 1600000 in
theorem aOB(s:Se)(w:World)(v4:Value)(hal:s.al.size≤maxLen)(hnm:s.name.size≤maxLen):
  Calls Tryz.prog 82 #[.agg #[.string s.al,.string s.name,.bool s.one,.int .i64 s.id,v4]] w fun e w'=>e=.returned (.bool (selB s))∧Below w.heap.size w w':=by
 have HSE:Hid (selB s=(aAO s.name&&(s.al.toList.isEmpty||(aAO s.al&&!(s.al.toList==s.name.toList)))&&(s.one||decide (s.id=0))&&(decide (0≤s.id)&&decide (s.id≤999999)))):=rfl
 have N1:=fun W=>aCM s.name W hnm
 have N2:=fun W=>aCM s.al W hal
 obtain⟨sel,hsel⟩:∃b,b=selB s:=⟨_,rfl⟩
 rw[←hsel] at HSE ⊢
 clear hsel
 have hne:aAO s.name=true→s.al.toList.isEmpty=true→(s.al.toList==s.name.toList)=false:=fun h1 h2=>by
  have h3:=aS2 h1
  rw[List.isEmpty_iff] at h2
  rw[h2]
  cases e:s.name.toList with
  |nil=>rw[e] at h3;simp at h3
  |cons a l=>rfl
 generalize s.al=al at*
 generalize s.name=name at*
 generalize s.one=one at*
 generalize s.id=id at*
 cases hn1:aAO name
 ·rw[hn1] at HSE
  have hs:sel=false:=by rw[HSE.out];simp
  simp only[hn1] at N1
  have HS:=aA0 hs
  clear hs
  go_enter Tryz.func82,Tryz.ntmps82
  go_wp2_with (first
   |(
    go_at_call_of 105 (Value.string name)
    refine(N1 _).mono ?_
    rintro e w' ⟨rfl,rfl⟩)
   |(
    go_at_call_of 105 (Value.string al)
    refine(N2 _).mono ?_
    rintro e w' ⟨rfl,rfl⟩))
  go_ret
  exact⟨aA4 (by first| (rw[HS.out];done)| (rw[HS.out];simp[hid])),aA2 w _⟩
 rw[hn1] at HSE
 simp only[hn1] at N1
 cases he:al.toList.isEmpty
 ·rw[he] at HSE
  cases hn2:aAO al
  ·rw[hn2] at HSE
   have hs:sel=false:=by rw[HSE.out];simp
   simp only[hn2] at N2
   have HS:=aA0 hs
   clear hs
   go_enter Tryz.func82,Tryz.ntmps82
   go_wp2_with (first
    |(
     go_at_call_of 105 (Value.string name)
     refine(N1 _).mono ?_
     rintro e w' ⟨rfl,rfl⟩)
    |(
     go_at_call_of 105 (Value.string al)
     refine(N2 _).mono ?_
     rintro e w' ⟨rfl,rfl⟩))
   go_ret
   exact⟨aA4 (by first| (rw[HS.out];done)| (rw[HS.out];simp[hid])),aA2 w _⟩
  rw[hn2] at HSE
  simp only[hn2] at N2
  cases hq:(al.toList==name.toList)
  rotate_left
  ·rw[hq] at HSE
   have hs:sel=false:=by rw[HSE.out];simp
   have HS:=aA0 hs
   clear hs
   go_enter Tryz.func82,Tryz.ntmps82
   go_wp2_with (first
    |(
     go_at_call_of 105 (Value.string name)
     refine(N1 _).mono ?_
     rintro e w' ⟨rfl,rfl⟩)
    |(
     go_at_call_of 105 (Value.string al)
     refine(N2 _).mono ?_
     rintro e w' ⟨rfl,rfl⟩))
   go_ret
   exact⟨aA4 (by first| (rw[HS.out];done)| (rw[HS.out];simp[hid])),aA2 w _⟩
  rw[hq] at HSE
  clear hne
  by_cases h0:0≤id
  rotate_left
  ·have hs:sel=false:=by rw[HSE.out];simp[h0]
   have HS:=aA0 hs
   clear hs
   go_enter Tryz.func82,Tryz.ntmps82
   go_wp2_with (first
    |(
     go_at_call_of 105 (Value.string name)
     refine(N1 _).mono ?_
     rintro e w' ⟨rfl,rfl⟩)
    |(
     go_at_call_of 105 (Value.string al)
     refine(N2 _).mono ?_
     rintro e w' ⟨rfl,rfl⟩))
   go_ret
   exact⟨aA4 (by first| (rw[HS.out];done)| (rw[HS.out];simp[hid])),aA2 w _⟩
  by_cases h9:id≤999999
  rotate_left
  ·have hs:sel=false:=by rw[HSE.out];simp[h9]
   have HS:=aA0 hs
   clear hs
   go_enter Tryz.func82,Tryz.ntmps82
   go_wp2_with (first
    |(
     go_at_call_of 105 (Value.string name)
     refine(N1 _).mono ?_
     rintro e w' ⟨rfl,rfl⟩)
    |(
     go_at_call_of 105 (Value.string al)
     refine(N2 _).mono ?_
     rintro e w' ⟨rfl,rfl⟩))
   go_ret
   exact⟨aA4 (by first| (rw[HS.out];done)| (rw[HS.out];simp[hid])),aA2 w _⟩
  cases one
  ·by_cases hid:id=0
   ·subst hid
    have hs:sel=true:=by rw[HSE.out];simp
    have HS:=aA0 hs
    clear hs
    go_enter Tryz.func82,Tryz.ntmps82
    go_wp2_with (first
     |(
      go_at_call_of 105 (Value.string name)
      refine(N1 _).mono ?_
      rintro e w' ⟨rfl,rfl⟩)
     |(
      go_at_call_of 105 (Value.string al)
      refine(N2 _).mono ?_
      rintro e w' ⟨rfl,rfl⟩))
    go_ret
    exact⟨aA4 (by first| (rw[HS.out];done)| (rw[HS.out];simp[hid])),aA2 w _⟩
   ·have hs:sel=false:=by rw[HSE.out];simp[hid]
    have HS:=aA0 hs
    clear hs
    go_enter Tryz.func82,Tryz.ntmps82
    go_wp2_with (first
     |(
      go_at_call_of 105 (Value.string name)
      refine(N1 _).mono ?_
      rintro e w' ⟨rfl,rfl⟩)
     |(
      go_at_call_of 105 (Value.string al)
      refine(N2 _).mono ?_
      rintro e w' ⟨rfl,rfl⟩))
    go_ret
    exact⟨aA4 (by first| (rw[HS.out];done)| (rw[HS.out];simp[hid])),aA2 w _⟩
  ·have hs:sel=true:=by rw[HSE.out];simp[h0,h9]
   have HS:=aA0 hs
   clear hs
   go_enter Tryz.func82,Tryz.ntmps82
   go_wp2_with (first
    |(
     go_at_call_of 105 (Value.string name)
     refine(N1 _).mono ?_
     rintro e w' ⟨rfl,rfl⟩)
    |(
     go_at_call_of 105 (Value.string al)
     refine(N2 _).mono ?_
     rintro e w' ⟨rfl,rfl⟩))
   go_ret
   exact⟨aA4 (by first| (rw[HS.out];done)| (rw[HS.out];simp[hid])),aA2 w _⟩
 ·rw[he] at HSE
  have hq:=hne hn1 he
  clear hne
  by_cases h0:0≤id
  rotate_left
  ·have hs:sel=false:=by rw[HSE.out];simp[h0]
   have HS:=aA0 hs
   clear hs
   go_enter Tryz.func82,Tryz.ntmps82
   go_wp2_with (first
    |(
     go_at_call_of 105 (Value.string name)
     refine(N1 _).mono ?_
     rintro e w' ⟨rfl,rfl⟩)
    |(
     go_at_call_of 105 (Value.string al)
     refine(N2 _).mono ?_
     rintro e w' ⟨rfl,rfl⟩))
   go_ret
   exact⟨aA4 (by first| (rw[HS.out];done)| (rw[HS.out];simp[hid])),aA2 w _⟩
  by_cases h9:id≤999999
  rotate_left
  ·have hs:sel=false:=by rw[HSE.out];simp[h9]
   have HS:=aA0 hs
   clear hs
   go_enter Tryz.func82,Tryz.ntmps82
   go_wp2_with (first
    |(
     go_at_call_of 105 (Value.string name)
     refine(N1 _).mono ?_
     rintro e w' ⟨rfl,rfl⟩)
    |(
     go_at_call_of 105 (Value.string al)
     refine(N2 _).mono ?_
     rintro e w' ⟨rfl,rfl⟩))
   go_ret
   exact⟨aA4 (by first| (rw[HS.out];done)| (rw[HS.out];simp[hid])),aA2 w _⟩
  cases one
  ·by_cases hid:id=0
   ·subst hid
    have hs:sel=true:=by rw[HSE.out];simp
    have HS:=aA0 hs
    clear hs
    go_enter Tryz.func82,Tryz.ntmps82
    go_wp2_with (first
     |(
      go_at_call_of 105 (Value.string name)
      refine(N1 _).mono ?_
      rintro e w' ⟨rfl,rfl⟩)
     |(
      go_at_call_of 105 (Value.string al)
      refine(N2 _).mono ?_
      rintro e w' ⟨rfl,rfl⟩))
    go_ret
    exact⟨aA4 (by first| (rw[HS.out];done)| (rw[HS.out];simp[hid])),aA2 w _⟩
   ·have hs:sel=false:=by rw[HSE.out];simp[hid]
    have HS:=aA0 hs
    clear hs
    go_enter Tryz.func82,Tryz.ntmps82
    go_wp2_with (first
     |(
      go_at_call_of 105 (Value.string name)
      refine(N1 _).mono ?_
      rintro e w' ⟨rfl,rfl⟩)
     |(
      go_at_call_of 105 (Value.string al)
      refine(N2 _).mono ?_
      rintro e w' ⟨rfl,rfl⟩))
    go_ret
    exact⟨aA4 (by first| (rw[HS.out];done)| (rw[HS.out];simp[hid])),aA2 w _⟩
  ·have hs:sel=true:=by rw[HSE.out];simp[h0,h9]
   have HS:=aA0 hs
   clear hs
   go_enter Tryz.func82,Tryz.ntmps82
   go_wp2_with (first
    |(
     go_at_call_of 105 (Value.string name)
     refine(N1 _).mono ?_
     rintro e w' ⟨rfl,rfl⟩)
    |(
     go_at_call_of 105 (Value.string al)
     refine(N2 _).mono ?_
     rintro e w' ⟨rfl,rfl⟩))
   go_ret
   exact⟨aA4 (by first| (rw[HS.out];done)| (rw[HS.out];simp[hid])),aA2 w _⟩
def ixS(ns:List ByteArray)(s:ByteArray):Nat→Int
 |0=>-1
 |n+1=>if 0≤ixS ns s n then ixS ns s n else if(nth ns n).toList==s.toList then(n:Nat) else -1
theorem aIE(ns:List ByteArray)(s:ByteArray):∀n,ixS ns s n=-1∨0≤ixS ns s n
 |0=>Or.inl rfl
 |n+1=>by
  rw[ixS]
  rcases aIE ns s n with h| h
  ·rw[h,if_neg (by omega)]
   split
   ·right;omega
   ·left;rfl
  ·rw[if_pos h];exact Or.inr h
theorem aR7(ns:List ByteArray)(s:ByteArray):∀n,n≤ns.length→(0≤ixS ns s n↔∃i,i<n∧(nth ns i).toList=s.toList)
 |0,_=>by simp[ixS]
 |n+1,h=>by
  have ih:=aR7 ns s n (by omega)
  rw[ixS]
  by_cases h0:0≤ixS ns s n
  ·rw[if_pos h0]
   obtain⟨i,hi,e⟩:=ih.1 h0
   exact⟨fun _=>⟨i,by omega,e⟩,fun _=>h0⟩
  ·rw[if_neg h0]
   by_cases hq:((nth ns n).toList==s.toList)=true
   ·rw[if_pos hq]
    exact⟨fun _=>⟨n,by omega,by simpa using hq⟩,fun _=>by omega⟩
   ·rw[if_neg hq]
    refine⟨fun h=>by omega,fun⟨i,hi,e⟩=>?_⟩
    by_cases ei:i=n
    ·subst ei;exact absurd (by simpa using e) hq
    ·exact absurd (ih.2 ⟨i,by omega,e⟩) h0
set_option maxHeartbeats 800000 in
theorem aPP(ns:List ByteArray)(s:ByteArray)(w:World)(P:Nat→Prop)(a:Option Addr)(c:Nat)(hS:Strs w P ns a)(hl:ns.length≤1048576):
  Calls Tryz.prog 122 #[.slice a ns.length c,.string s] w fun e w'=>e=.returned (.int .i64 (ixS ns s ns.length))∧w=w':=by
 obtain⟨hS1,hS2,hS3⟩:=hS
 go_enter Tryz.func122,Tryz.ntmps122
 go_wp2_with fail
 go_loopw [8] (fun i wr=>∃k:Nat,k≤ns.length∧i=.int .i64 k∧Hid (ixS ns s k=-1)∧wr=w) (fun i _=>ns.length- (intOf i).toNat)
 case atStart=>exact⟨0,Nat.zero_le _,rfl,aA0 rfl,rfl⟩
 case round=>
  obtain⟨k,hk,rfl,HI,rfl⟩:=hrel
  by_cases hlt:k<ns.length
  ·obtain⟨b,off,rfl,-,hc⟩:=hS1 (by intro e;rw[e] at hlt;simp at hlt)
   have hki:(k:Int)<(ns.length:Int):=by omega
   have q0:=hc k hlt
   have HX:Hid (ixS ns s (k+1)=if((nth ns k).toList==s.toList)=true then((k:Nat):Int) else -1):=aA0 (by rw[ixS,HI.out,if_neg (by omega)])
   have HM:Hid (((nth ns k).toList==s.toList)=true→ixS ns s ns.length=(k:Nat)):=aA0 fun h=>by
    have h1:ixS ns s (k+1)=(k:Nat):=by rw[HX.out,if_pos h]
    have key:∀m,k+1≤m→ixS ns s m=(k:Nat):=fun m hm=>by
     induction m with
     |zero=>omega
     |succ m ih=>
      by_cases em:m=k
      ·rw[em];exact h1
      ·rw[ixS,ih (by omega),if_pos (by omega)]
    exact key ns.length (by omega)
   clear hc hS1 hS2
   generalize nth ns k=x at*
   cases hq:(s.toList==x.toList)
   ·have hq2:(x.toList==s.toList)=false:=by rw[Bool.beq_comm];exact hq
    rw[hq2] at HX
    clear HM
    go_wp2_with fail
    go_roundw
    case measure=>simp[intOf];omega
    case rel=>exact⟨k+1,by omega,by go_num,aA0 (by rw[HX.out];rfl),trivial⟩
   ·have hq2:(x.toList==s.toList)=true:=by rw[Bool.beq_comm];exact hq
    have HR:=aA0 (HM.out hq2)
    clear HM HX
    go_wp2_with fail
    go_ret
    exact⟨aB8 (by rw[HR.out]),rfl⟩
  ·have e:k=ns.length:=by omega
   subst e
   go_wp2_with fail
   go_ret
   exact⟨aB8 (by rw[HI.out]),rfl⟩
set_option maxHeartbeats 400000 in
theorem aL8(ns:List ByteArray)(s:ByteArray)(w:World)(P:Nat→Prop)(a:Option Addr)(c:Nat)(hS:Strs w P ns a)(hl:ns.length≤1048576):
  Calls Tryz.prog 83 #[.slice a ns.length c,.string s] w fun e w'=>e=.returned (.bool ((ns.map ByteArray.toList).contains s.toList))∧w=w':=by
 have hI:=aPP ns s w P a c hS hl
 have HC:Hid ((ns.map ByteArray.toList).contains s.toList=decide (0≤ixS ns s ns.length)):=aA0 (by
  rw[Bool.eq_iff_iff,decide_eq_true_eq,aR7 ns s _ (Nat.le_refl _)]
  simp only[List.contains_iff_mem,List.mem_map]
  constructor
  ·rintro⟨x,hx,e⟩
   obtain⟨i,hi,rfl⟩:=List.mem_iff_getElem.1 hx
   exact⟨i,hi,by rw[←e];simp[nth,List.getD_eq_getElem?_getD,hi]⟩
  ·rintro⟨i,hi,e⟩
   exact⟨ns[i],List.getElem_mem hi,by rw[←e];simp[nth,List.getD_eq_getElem?_getD,hi]⟩)
 have hcs:=aIE ns s ns.length
 generalize ixS ns s ns.length=x at*
 by_cases hx:0≤x
 ·have hx':x≥ 0:=hx
  go_enter Tryz.func83,Tryz.ntmps83
  go_wp2_with fail
  refine hI.mono ?_
  rintro e w1 ⟨rfl,rfl⟩
  go_wp2_with fail
  go_ret
  exact⟨aA4 (by rw[HC.out];simp[hx]),rfl⟩
 ·have hx':¬x≥ 0:=hx
  go_enter Tryz.func83,Tryz.ntmps83
  go_wp2_with fail
  refine hI.mono ?_
  rintro e w1 ⟨rfl,rfl⟩
  go_wp2_with fail
  go_ret
  exact⟨aA4 (by rw[HC.out];try simp[hx]),rfl⟩
end Go.Proofs.YtokmgbidmnanpaaGreatDoor
