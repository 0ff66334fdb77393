import Derived.Test.YtokmgbidmnanpaaGreatDoorQ4
import Derived.Test.YtokmgbidmnanpaaGreatDoorQ2
import Derived.Deep.RegionHeld3
import Derived.Deep.DeepCutAuto
import Derived.Laws.EntriesVeiled
set_option linter.unusedSimpArgs false
set_option linter.unusedVariables false
namespace Go.Proofs.YtokmgbidmnanpaaGreatDoor
open Go.RowKit
theorem aDZ.pieces{w:World}{P:Nat→Prop}{x:Se}{c0 c1 c2 c3 c4:Value}(h:aDZ w P x (.agg #[c0,c1,c2,c3,c4])):
  ∃(ka:Option Addr) (kc:Nat),c0=.string x.al∧c1=.string x.name∧c2=.bool x.one∧c3=.int .i64 x.id∧c4=.slice ka x.kids.length kc∧x.al.size≤maxLen∧x.name.size≤maxLen∧aAA w P x.kids ka:=by
 obtain⟨f,h⟩:=h
 match f,h with
 |f+1,h=>
  obtain⟨ka,kc,C,hv,hs,hn,hbk,hA,hr⟩:=h
  simp only[Value.agg.injEq,Array.mk.injEq,List.cons.injEq,and_true] at hv
  exact⟨ka,kc,hv.1,hv.2.1,hv.2.2.1,hv.2.2.2.1,hv.2.2.2.2,hs,hn,hbk,C,hA,fun i hi=>⟨f,hr i hi⟩⟩
set_option maxHeartbeats 400000 in
theorem aD7(s:Se)(w:World)(v2 v3 v4:Value):
  Calls Tryz.prog 81 #[.agg #[.string s.al,.string s.name,v2,v3,v4]] w fun e w'=>e=.returned (.string (keyS s))∧Below w.heap.size w w':=by
 have HK:Hid (∀b,s.al.toList.isEmpty=b→keyS s=if b=true then s.name else s.al):=fun b hb=>by unfold keyS;rw[hb]
 cases he:s.al.toList.isEmpty
 ·go_enter Tryz.func81,Tryz.ntmps81
  go_wp2_with fail
  go_ret
  exact⟨by rw[HK.out false he];rfl,aA2 w _⟩
 ·go_enter Tryz.func81,Tryz.ntmps81
  go_wp2_with fail
  go_ret
  exact⟨by rw[HK.out true he];rfl,aA2 w _⟩
def L3P(f d:Nat)(ks:List Se)(left x:Int):Prop:=
 (0≤x↔((ks.isEmpty||decide (d≤5))=true∧okTo f d ks ks.length=true∧(aBX f ks ks.length:Int)≤left))∧(0≤x→x=left- (aBX f ks ks.length:Nat))∧-1≤x∧x≤24
def L3I(f d:Nat)(ks:List Se)(left:Int)(i:Nat)(y:Int):Prop:=
 (0≤y→okTo f d ks i=true∧y=left- (aBX f ks i:Nat))∧(y<0→¬(okTo f d ks ks.length=true∧(aBX f ks ks.length:Int)≤left))∧-1≤y∧y≤24
theorem aEH(f:Nat)(ks:List Se):∀{n m:Nat},n≤m→aBX f ks n≤aBX f ks m:=fun {n m} h=>by
 induction m with
 |zero=>
  have:n=0:=by omega
  rw[this];exact Nat.le_refl _
 |succ m ih=>
  by_cases e:n=m+1
  ·rw[e];exact Nat.le_refl _
  ·rw[aBN];have:=ih (by omega);omega
theorem aH2(f d:Nat)(ks:List Se):∀{n m:Nat},n≤m→okTo (f+1) d ks m=true→okTo (f+1) d ks n=true:=fun {n m} h hm=>by
 induction m with
 |zero=>
  have:n=0:=by omega
  rw[this];exact hm
 |succ m ih=>
  by_cases e:n=m+1
  ·rw[e];exact hm
  ·rw[aD9,Bool.and_eq_true] at hm
   exact ih (by omega) hm.1
theorem L3I.start(f d:Nat)(ks:List Se)(left:Int)(h0:-1≤left)(h1:left≤24):L3I f d ks left 0 left:=by
 refine⟨fun h=>⟨by cases f<;>simp[okTo],by simp[aBX]⟩,fun h hc=>?_,h0,h1⟩
 have:=hc.2
 omega
theorem L3P.bad{f d:Nat}{ks:List Se}{left:Int}{i:Nat}(hi:i<ks.length)(h:(selB (sth ks i)&&aBV ks (keyS (sth ks i)) i)=false):L3P (f+1) d ks left (-1):=by
 refine⟨⟨fun h=>by omega,fun hc=>?_⟩,fun h=>by omega,by omega,by omega⟩
 have:=aH2 f d ks (show i+1≤ks.length by omega) hc.2.1
 rw[aD9,h] at this
 simp at this
theorem L3P.deep{f d:Nat}{ks:List Se}{left:Int}(h0:0<ks.length)(h:5<d):L3P f d ks left (-1):=by
 refine⟨⟨fun h=>by omega,fun hc=>?_⟩,fun h=>by omega,by omega,by omega⟩
 have h1:=hc.1
 simp only[Bool.or_eq_true,List.isEmpty_iff,decide_eq_true_eq] at h1
 rcases h1 with h1| h1
 ·rw[h1] at h0;simp at h0
 ·omega
theorem L3I.next{f d:Nat}{ks:List Se}{left y x:Int}{i:Nat}(hi:i<ks.length)(hI:L3I (f+1) d ks left i y)(hy:0≤y)(h:(selB (sth ks i)&&aBV ks (keyS (sth ks i)) i)=true)(hP:L3P f (d+1) (sth ks i).kids (y- 1) x):L3I (f+1) d ks left (i+1) x:=by
 obtain⟨e1,e2⟩:=hI.1 hy
 obtain⟨p1,p2,p3,p4⟩:=hP
 refine⟨fun hx=>?_,fun hx hc=>?_,p3,p4⟩
 ·obtain⟨q1,q2,q3⟩:=p1.1 hx
  rw[aD9,e1,h,q1,q2]
  refine⟨rfl,?_⟩
  rw[aBN,aBD,p2 hx,e2]
  omega
 ·have hm:=aH2 f d ks (show i+1≤ks.length by omega) hc.1
  rw[aD9,Bool.and_eq_true,Bool.and_eq_true,Bool.and_eq_true] at hm
  have hcn:=aEH (f+1) ks (show i+1≤ks.length by omega)
  rw[aBN,aBD] at hcn
  have hm3:=Bool.and_eq_true _ _▸hm.2.2
  have:=p1.2 ⟨hm3.1,hm3.2,by have:=hc.2;omega⟩
  omega
theorem L3I.done{f d:Nat}{ks:List Se}{left y:Int}(hI:L3I f d ks left ks.length y)(hd:(ks.isEmpty||decide (d≤5))=true):L3P f d ks left y:=by
 obtain⟨h1,h2,h3,h4⟩:=hI
 refine⟨⟨fun hx=>⟨hd,(h1 hx).1,by have:=(h1 hx).2;omega⟩,fun hc=>?_⟩,fun hx=>(h1 hx).2,h3,h4⟩
 apply Classical.byContradiction
 intro hn
 exact h2 (by omega) ⟨hc.2.1,hc.2.2⟩
theorem L3I.stop{f d:Nat}{ks:List Se}{left y:Int}{i:Nat}(hI:L3I f d ks left i y)(hy:y<0):L3P f d ks left y:=by
 obtain⟨h1,h2,h3,h4⟩:=hI
 exact⟨⟨fun hx=>by omega,fun hc=>absurd ⟨hc.2.1,hc.2.2⟩ (h2 hy)⟩,fun hx=>by omega,h3,h4⟩
set_option maxRecDepth 20000 in
set_option maxHeartbeats 3200000 in
theorem aT9:∀(f d:Nat) (ks:List Se) (w:World) (B:Nat) (ka:Option Addr) (kc:Nat) (left:Int),FitS f ks→aAA w (·<B) ks ka→B≤w.heap.size→d≤6→-1≤left→left≤24→
  Calls Tryz.prog 47 #[.slice ka ks.length kc,.int .i64 d,.int .i64 left] w fun e w'=>(∃x:Int,e=.returned (.int .i64 x)∧L3P f d ks left x)∧Below w.heap.size w w':=by
 intro f
 induction f with
 |zero=>
  intro d ks w B ka kc left hf hR hB hd h0 h1
  have e:ks=[]:=hf
  subst e
  have HP:Hid (L3P 0 d [] left left):=(L3I.start 0 d [] left h0 h1).done rfl
  go_enter Tryz.func47,Tryz.ntmps47
  go_wp2_with fail
  go_loopw [7,8] (fun y i wr=>y=.int .i64 left∧i=.int .i64 0∧wr=w) (fun _ _ _=>0)
  case atStart=>exact⟨rfl,rfl,rfl⟩
  case round=>
   obtain⟨rfl,rfl,rfl⟩:=hrel
   go_wp2_with fail
   go_ret
   exact⟨⟨left,rfl,HP.out⟩,Below.refl _ _⟩
 |succ f IH=>
  intro d ks w B ka kc left hf hR hB hd h0 h1
  obtain⟨h72,C,hA,hr⟩:=id hR
  have hI0:=aA0 (L3I.start (f+1) d ks left h0 h1)
  have hlen:ks.length≤281474976710656:=by omega
  by_cases hdp:0<ks.length∧5<d
  ·have HP:Hid (L3P (f+1) d ks left (-1)):=aA0 (L3P.deep hdp.1 hdp.2)
   have hl0:(0:Int)<(ks.length:Int):=by omega
   have hd5:(5:Int)<(d:Int):=by omega
   go_enter Tryz.func47,Tryz.ntmps47
   go_wp2_with fail
   go_ret
   exact⟨⟨-1,rfl,HP.out⟩,Below.refl _ _⟩
  have hdd:(ks.isEmpty||decide (d≤5))=true:=by
   cases ks with
   |nil=>rfl
   |cons a l=>simp at hdp ⊢;omega
  have HDD:=aA0 hdd
  by_cases hl:0<ks.length
  case neg=>
   have e:ks=[]:=List.length_eq_zero_iff.1 (by omega)
   subst e
   have HP:Hid (L3P (f+1) d [] left left):=(L3I.start (f+1) d [] left h0 h1).done rfl
   clear hI0 HDD hdd hA hr
   go_enter Tryz.func47,Tryz.ntmps47
   go_wp2_with fail
   go_loopw [7,8] (fun y i wr=>y=.int .i64 left∧i=.int .i64 0∧wr=w) (fun _ _ _=>0)
   case atStart=>exact⟨rfl,rfl,rfl⟩
   case round=>
    obtain⟨rfl,rfl,rfl⟩:=hrel
    go_wp2_with fail
    go_ret
    exact⟨⟨left,rfl,HP.out⟩,Below.refl _ _⟩
  obtain⟨kb,koff,rfl,hkB,hkc⟩:=hA hl
  have hl0:(0:Int)<(ks.length:Int):=by omega
  have hd5:¬(5:Int)<(d:Int):=by omega
  have HR:=aA0 hR
  clear hdd hR hA
  go_enter Tryz.func47,Tryz.ntmps47
  go_wp2_with fail
  go_loopw [7,8] (fun y i wr=>∃(k:Nat) (n:Int),k≤ks.length∧i=.int .i64 k∧y=.int .i64 n∧Hid (L3I (f+1) d ks left k n)∧Below w.heap.size w wr) (fun _ i _=>ks.length- (intOf i).toNat)
  case atStart=>exact⟨0,left,Nat.zero_le _,rfl,rfl,hI0,Below.refl _ _⟩
  case round=>
   clear hI0
   obtain⟨k,n,hk,rfl,rfl,HI,hbel⟩:=hrel
   obtain⟨w0,rfl⟩:∃x,x=wr:=⟨wr,rfl⟩
   by_cases hlt:k<ks.length
   case neg=>
    have e:k=ks.length:=by omega
    subst e
    have HP:=aA0 (HI.out.done HDD.out)
    go_wp2_with fail
    go_ret
    exact⟨⟨n,rfl,HP.out⟩,hbel⟩
   have hki:(k:Int)<(ks.length:Int):=by omega
   by_cases hn0:0≤n
   case neg=>
    have hn1:¬n≥ 0:=by omega
    have HP:=aA0 (HI.out.stop (by omega))
    go_wp2_with fail
    go_ret
    exact⟨⟨n,rfl,HP.out⟩,hbel⟩
   have hn24:n≤24:=HI.out.2.2.2
   obtain⟨sa,sc,e0,e1,e2,e3,e4,hal,hnm,hKids⟩:=(hr k hlt).pieces
   have hcell:∀W,Below w.heap.size w W→W.cell? ⟨kb,koff+k*5,none⟩=some (.string (sth ks k).al)∧W.cell? ⟨kb,koff+k*5+1,none⟩=some (.string (sth ks k).name)∧W.cell? ⟨kb,koff+k*5+2,none⟩=some (.bool (sth ks k).one)∧W.cell? ⟨kb,koff+k*5+3,none⟩=some (.int .i64 (sth ks k).id)∧W.cell? ⟨kb,koff+k*5+4,none⟩=some (.slice sa (sth ks k).kids.length sc):=fun W hW=>by
    have h:∀m,m<5→W.cell? ⟨kb,koff+k*5+m,none⟩=some (C k m):=fun m hm=>(hW.cell (p:=⟨kb,koff+k*5+m,none⟩) (by show kb<_;omega)).trans (hkc k hlt m hm)
    exact⟨e0▸h 0 (by omega),e1▸h 1 (by omega),e2▸h 2 (by omega),e3▸h 3 (by omega),e4▸h 4 (by omega)⟩
   obtain⟨q0,q1,q2,q3,q4⟩:=hcell w0 hbel
   have hfit:=hf k hlt
   have HBAD:Hid (∀b,(selB (sth ks k)&&aBV ks (keyS (sth ks k)) k)=b→b=false→L3P (f+1) d ks left (-1)):=aA0 fun b hb e=>L3P.bad hlt (hb.trans e)
   have HNX:Hid (∀x,(selB (sth ks k)&&aBV ks (keyS (sth ks k)) k)=true→L3P f (d+1) (sth ks k).kids (n- 1) x→L3I (f+1) d ks left (k+1) x):=aA0 fun x h1 h2=>L3I.next hlt HI.out hn0 h1 h2
   have hIH:=fun W (hW:Below w.heap.size w W)=>IH (d+1) (sth ks k).kids W B sa sc (n- 1) hfit (hKids.under (hW.mono hB)) (by have:=hW.size;omega) (by omega) (by omega) (by omega)
   simp only[Int.natCast_add,Int.cast_ofNat_Int] at hIH
   have HIH:=aA0 hIH
   clear hIH
   have HFR:=aA0 (fun m=>aOC ks (keyS (sth ks k)) m)
   have HSE:Hid (selB (sth ks k)=(aAO (sth ks k).name&&((sth ks k).al.toList.isEmpty||(aAO (sth ks k).al&&!((sth ks k).al.toList==(sth ks k).name.toList)))&&((sth ks k).one||decide ((sth ks k).id=0))&&(decide (0≤(sth ks k).id)&&decide ((sth ks k).id≤999999)))):=rfl
   have HKY:Hid (∀W v2 v3 v4,Calls Tryz.prog 81 #[.agg #[.string (sth ks k).al,.string (sth ks k).name,v2,v3,v4]] W fun e w'=>e=.returned (.string (keyS (sth ks k)))∧Below W.heap.size W w'):=fun W v2 v3 v4=>aD7 (sth ks k) W v2 v3 v4
   generalize hss:sth ks k=s at*
   generalize hkey:keyS s=key at*
   clear hcell e0 e1 e2 e3 e4 hKids hfit IH hss hkey
   obtain⟨sel,hsel⟩:∃b,b=selB s:=⟨_,rfl⟩
   rw[←hsel] at HBAD HNX HSE
   clear hsel
   have HN1:=aA0 (fun W=>aCN s.name W hnm)
   have HN2:=aA0 (fun W=>aCN s.al W hal)
   have NI:=fun W=>aGP s.id 0 999999 W
   have N1:=HN1.out
   have N2:=HN2.out
   clear HN1 HN2
   generalize s.al=al at*
   generalize s.name=name at*
   generalize s.one=one at*
   generalize s.id=id at*
   have hbox:Below w.heap.size w (w0.alloc (.cells #[.string al,.string name,.bool one,.int .i64 id,.slice sa s.kids.length sc] 56)):=hbel.trans ((aA2 w0 _).mono hbel.size)
   have nB:=aA3 (w:=w0) #[.string al,.string name,.bool one,.int .i64 id,.slice sa s.kids.length sc] 56 rfl
   cases hn1:aAO name
   ·rw[hn1] at HSE
    have hs:sel=false:=by rw[HSE.out];simp
    simp only[hn1] at N1
    go_wp2_with (first
     |(
      go_at_call_of 77 (Value.string name)
      refine(N1 _).mono ?_
      rintro e w' ⟨rfl,rfl⟩)
     |(
      go_at_call_of 77 (Value.string al)
      refine(N2 _).mono ?_
      rintro e w' ⟨rfl,rfl⟩)
     |(
      go_at_call 87
      refine(NI _).mono ?_
      rintro e w' ⟨rfl,rfl⟩))
    go_ret
    exact⟨⟨-1,rfl,HBAD.out false (by rw[hs];rfl) rfl⟩,hbox⟩
   simp only[hn1] at N1
   rw[hn1] at HSE
   cases he:al.toList.isEmpty
   ·rw[he] at HSE
    cases hn2:aAO al
    ·rw[hn2] at HSE
     have hs:sel=false:=by rw[HSE.out];simp
     simp only[hn2] at N2
     go_wp2_with (first
      |(
       go_at_call_of 77 (Value.string name)
       refine(N1 _).mono ?_
       rintro e w' ⟨rfl,rfl⟩)
      |(
       go_at_call_of 77 (Value.string al)
       refine(N2 _).mono ?_
       rintro e w' ⟨rfl,rfl⟩)
      |(
       go_at_call 87
       refine(NI _).mono ?_
       rintro e w' ⟨rfl,rfl⟩))
     go_ret
     exact⟨⟨-1,rfl,HBAD.out false (by rw[hs];rfl) rfl⟩,hbox⟩
    simp only[hn2] at N2
    rw[hn2] at HSE
    cases hq2:(al.toList==name.toList)
    rotate_left
    ·rw[hq2] at HSE
     have hs:sel=false:=by rw[HSE.out];simp
     go_wp2_with (first
      |(
       go_at_call_of 77 (Value.string name)
       refine(N1 _).mono ?_
       rintro e w' ⟨rfl,rfl⟩)
      |(
       go_at_call_of 77 (Value.string al)
       refine(N2 _).mono ?_
       rintro e w' ⟨rfl,rfl⟩)
      |(
       go_at_call 87
       refine(NI _).mono ?_
       rintro e w' ⟨rfl,rfl⟩))
     go_ret
     exact⟨⟨-1,rfl,HBAD.out false (by rw[hs];rfl) rfl⟩,hbox⟩
    rw[hq2] at HSE
    cases one
    ·by_cases hid:id=0
     ·subst hid
      have hs:sel=true:=by rw[HSE.out];simp
      have NI:=fun W=>aGP 0 0 999999 W
      go_wp2_with (first
       |(
        go_at_call_of 77 (Value.string name)
        refine(N1 _).mono ?_
        rintro e w' ⟨rfl,rfl⟩)
       |(
        go_at_call_of 77 (Value.string al)
        refine(N2 _).mono ?_
        rintro e w' ⟨rfl,rfl⟩)
       |(
        go_at_call 87
        refine(NI _).mono ?_
        rintro e w' ⟨rfl,rfl⟩))
      clear q0 q1 q2 q3 q4 N1 N2 NI
      go_loopw [10] (fun i wr=>∃(m:Nat),m≤k∧i=.int .i64 m∧Hid (aBV ks key m=true)∧Below w.heap.size w wr∧wr.heap[w0.heap.size]?=some (.cells #[.string al,.string name,.bool false,.int .i64 0,.slice sa s.kids.length sc] 56 (0,0))∧w0.heap.size<wr.heap.size) (fun i _=>k- (intOf i).toNat)
      case atStart=>exact⟨0,Nat.zero_le _,rfl,aA0 (by simp[aBV]),hbox,nB,by simp⟩
      case round=>
       clear hbox nB
       obtain⟨m,hm,rfl,HFM,hb2,nB2,zb2⟩:=hrel
       obtain⟨w2,rfl⟩:∃x,x=wr:=⟨wr,rfl⟩
       by_cases hmk:m<k
       case neg=>
        have e:m=k:=by omega
        subst e
        obtain⟨u4,-⟩:=aA1 nB2 4 (by simp)
        have HR2:=aA0 (HIH.out w2 hb2)
        go_wp2_with fail
        refine HR2.out.mono ?_
        rintro e w3 ⟨⟨x,rfl,hP⟩,hb3⟩
        have HX:=aA0 (HNX.out x (by rw[hs,HFM.out];rfl) hP)
        clear hP
        go_wp2_with fail
        go_roundw
        case measure=>simp[intOf];omega
        case rel=>exact⟨m+1,x,by omega,by go_num,rfl,HX,hb2.trans (hb3.mono hb2.size)⟩
       have hmi:(m:Int)<(k:Int):=by omega
       have hml:(m:Int)<(ks.length:Int):=by omega
       have hmlt:m<ks.length:=by omega
       obtain⟨ma,mc,e0,e1,e2,e3,e4,-,-,-⟩:=(hr m hmlt).pieces
       have HC:Hid (∀W,Below w2.heap.size w2 W→(W.cell? ⟨kb,koff+m*5,none⟩=some (.string (sth ks m).al)∧W.cell? ⟨kb,koff+m*5+1,none⟩=some (.string (sth ks m).name)∧W.cell? ⟨kb,koff+m*5+2,none⟩=some (.bool (sth ks m).one)∧W.cell? ⟨kb,koff+m*5+3,none⟩=some (.int .i64 (sth ks m).id)∧W.cell? ⟨kb,koff+m*5+4,none⟩=some (.slice ma (sth ks m).kids.length mc))∧(W.cell? ⟨w0.heap.size,0,none⟩=some (.string al)∧W.cell? ⟨w0.heap.size,1,none⟩=some (.string name)∧W.cell? ⟨w0.heap.size,2,none⟩=some (.bool false)∧W.cell? ⟨w0.heap.size,3,none⟩=some (.int .i64 0)∧W.cell? ⟨w0.heap.size,4,none⟩=some (.slice sa s.kids.length sc))):=aA0 fun W hW=>by
        have h:∀j,j<5→W.cell? ⟨kb,koff+m*5+j,none⟩=some (C m j):=fun j hj=>((hb2.trans (hW.mono hb2.size)).cell (p:=⟨kb,koff+m*5+j,none⟩) (by show kb<_;omega)).trans (hkc m hmlt j hj)
        have hb:=(hW.block _ zb2).trans nB2
        exact⟨⟨e0▸h 0 (by omega),e1▸h 1 (by omega),e2▸h 2 (by omega),e3▸h 3 (by omega),e4▸h 4 (by omega)⟩,(aA1 hb 0 (by simp)).1,(aA1 hb 1 (by simp)).1,(aA1 hb 2 (by simp)).1,(aA1 hb 3 (by simp)).1,(aA1 hb 4 (by simp)).1⟩
       have HFS:=aA0 (HFR.out m)
       have HMK:Hid (∀W v2 v3 v4,Calls Tryz.prog 81 #[.agg #[.string (sth ks m).al,.string (sth ks m).name,v2,v3,v4]] W fun e w'=>e=.returned (.string (keyS (sth ks m)))∧Below W.heap.size W w'):=fun W v2 v3 v4=>aD7 (sth ks m) W v2 v3 v4
       have HHIT:Hid (((keyS (sth ks m)).toList==key.toList)=true→aBV ks key k=false):=aA0 fun h=>by
        cases e:aBV ks key k with
        |false=>rfl
        |true=>exact absurd (by simpa using h) ((aDS _ _ _).1 e m hmk)
       clear e0 e1 e2 e3 e4
       generalize sth ks m=sm at*
       generalize keyS sm=km at*
       obtain⟨⟨r0,r1,r2,r3,r4⟩,u0,u1,u2,u3,u4⟩:=HC.out w2 (Below.refl _ _)
       go_wp2_with fail
       go_cut [83] (fun r wx=>r=.bool (km.toList==key.toList)∧Below w2.heap.size w2 wx)
       case first=>
        go_region_held3 (fun w'=>w'.cell? ⟨kb,koff+m*5,none⟩=some (.string sm.al)∧w'.cell? ⟨kb,koff+m*5+1,none⟩=some (.string sm.name)∧w'.cell? ⟨kb,koff+m*5+2,none⟩=some (.bool sm.one)∧w'.cell? ⟨kb,koff+m*5+3,none⟩=some (.int .i64 sm.id)∧w'.cell? ⟨kb,koff+m*5+4,none⟩=some (.slice ma sm.kids.length mc)∧w'.cell? ⟨w0.heap.size,0,none⟩=some (.string al)∧w'.cell? ⟨w0.heap.size,1,none⟩=some (.string name)∧w'.cell? ⟨w0.heap.size,2,none⟩=some (.bool false)∧w'.cell? ⟨w0.heap.size,3,none⟩=some (.int .i64 0)∧w'.cell? ⟨w0.heap.size,4,none⟩=some (.slice sa s.kids.length sc)) (go_keep)
         (first
          |(
           go_at_call_of 81 (Value.string sm.name)
           refine(HMK.out w2.drew _ _ _).mono ?_
           rintro e w3 ⟨rfl,hb3⟩
           have hb3':=aA6 hb3
           obtain⟨⟨a0,a1,a2,a3,a4⟩,d0,d1,d2,d3,d4⟩:=HC.out w3 hb3'
           clear hb3)
          |(
           go_at_call_of 81 (Value.string name)
           refine(HKY.out w3 _ _ _).mono ?_
           rintro e w4 ⟨rfl,hb4⟩
           have hb4':=hb3'.trans (hb4.mono hb3'.size)
           obtain⟨⟨f0,f1,f2,f3,f4⟩,g0,g1,g2,g3,g4⟩:=HC.out w4 hb4'
           clear hb4))
        all_goals
         go_wp2_with fail
         go_meet
         case rel=>exact⟨rfl,hb4'⟩
       case rest=>
       obtain⟨rfl,hb4⟩:=hcut
       obtain⟨w4,rfl⟩:∃x,x=wc:=⟨wc,rfl⟩
       clear r0 r1 r2 r3 r4 u0 u1 u2 u3 u4
       have bw4:=hb2.trans (hb4.mono hb2.size)
       cases hq:(km.toList==key.toList)
       ·go_wp2_with fail
        go_roundw
        case measure=>simp[intOf];omega
        case rel=>exact⟨m+1,by omega,by go_num,aA0 (by rw[HFS.out,HFM.out,hq];rfl),bw4,(hb4.block _ zb2).trans nB2,by have:=hb4.size;omega⟩
       ·go_wp2_with fail
        go_ret
        exact⟨⟨-1,rfl,HBAD.out false (by rw[HHIT.out hq];simp) rfl⟩,bw4⟩
     ·have hs:sel=false:=by rw[HSE.out];simp[hid]
      go_wp2_with (first
       |(
        go_at_call_of 77 (Value.string name)
        refine(N1 _).mono ?_
        rintro e w' ⟨rfl,rfl⟩)
       |(
        go_at_call_of 77 (Value.string al)
        refine(N2 _).mono ?_
        rintro e w' ⟨rfl,rfl⟩)
       |(
        go_at_call 87
        refine(NI _).mono ?_
        rintro e w' ⟨rfl,rfl⟩))
      go_ret
      exact⟨⟨-1,rfl,HBAD.out false (by rw[hs];rfl) rfl⟩,hbox⟩
    ·by_cases hid:0≤id∧id≤999999
     ·have hs:sel=true:=by rw[HSE.out];simp[hid.1,hid.2]
      have hi1:(decide (0≤id)&&decide (id≤999999))=true:=by simp[hid.1,hid.2]
      simp only[hi1] at NI
      go_wp2_with (first
       |(
        go_at_call_of 77 (Value.string name)
        refine(N1 _).mono ?_
        rintro e w' ⟨rfl,rfl⟩)
       |(
        go_at_call_of 77 (Value.string al)
        refine(N2 _).mono ?_
        rintro e w' ⟨rfl,rfl⟩)
       |(
        go_at_call 87
        refine(NI _).mono ?_
        rintro e w' ⟨rfl,rfl⟩))
      clear q0 q1 q2 q3 q4 N1 N2 NI
      go_loopw [10] (fun i wr=>∃(m:Nat),m≤k∧i=.int .i64 m∧Hid (aBV ks key m=true)∧Below w.heap.size w wr∧wr.heap[w0.heap.size]?=some (.cells #[.string al,.string name,.bool true,.int .i64 id,.slice sa s.kids.length sc] 56 (0,0))∧w0.heap.size<wr.heap.size) (fun i _=>k- (intOf i).toNat)
      case atStart=>exact⟨0,Nat.zero_le _,rfl,aA0 (by simp[aBV]),hbox,nB,by simp⟩
      case round=>
       clear hbox nB
       obtain⟨m,hm,rfl,HFM,hb2,nB2,zb2⟩:=hrel
       obtain⟨w2,rfl⟩:∃x,x=wr:=⟨wr,rfl⟩
       by_cases hmk:m<k
       case neg=>
        have e:m=k:=by omega
        subst e
        obtain⟨u4,-⟩:=aA1 nB2 4 (by simp)
        have HR2:=aA0 (HIH.out w2 hb2)
        go_wp2_with fail
        refine HR2.out.mono ?_
        rintro e w3 ⟨⟨x,rfl,hP⟩,hb3⟩
        have HX:=aA0 (HNX.out x (by rw[hs,HFM.out];rfl) hP)
        clear hP
        go_wp2_with fail
        go_roundw
        case measure=>simp[intOf];omega
        case rel=>exact⟨m+1,x,by omega,by go_num,rfl,HX,hb2.trans (hb3.mono hb2.size)⟩
       have hmi:(m:Int)<(k:Int):=by omega
       have hml:(m:Int)<(ks.length:Int):=by omega
       have hmlt:m<ks.length:=by omega
       obtain⟨ma,mc,e0,e1,e2,e3,e4,-,-,-⟩:=(hr m hmlt).pieces
       have HC:Hid (∀W,Below w2.heap.size w2 W→(W.cell? ⟨kb,koff+m*5,none⟩=some (.string (sth ks m).al)∧W.cell? ⟨kb,koff+m*5+1,none⟩=some (.string (sth ks m).name)∧W.cell? ⟨kb,koff+m*5+2,none⟩=some (.bool (sth ks m).one)∧W.cell? ⟨kb,koff+m*5+3,none⟩=some (.int .i64 (sth ks m).id)∧W.cell? ⟨kb,koff+m*5+4,none⟩=some (.slice ma (sth ks m).kids.length mc))∧(W.cell? ⟨w0.heap.size,0,none⟩=some (.string al)∧W.cell? ⟨w0.heap.size,1,none⟩=some (.string name)∧W.cell? ⟨w0.heap.size,2,none⟩=some (.bool true)∧W.cell? ⟨w0.heap.size,3,none⟩=some (.int .i64 id)∧W.cell? ⟨w0.heap.size,4,none⟩=some (.slice sa s.kids.length sc))):=aA0 fun W hW=>by
        have h:∀j,j<5→W.cell? ⟨kb,koff+m*5+j,none⟩=some (C m j):=fun j hj=>((hb2.trans (hW.mono hb2.size)).cell (p:=⟨kb,koff+m*5+j,none⟩) (by show kb<_;omega)).trans (hkc m hmlt j hj)
        have hb:=(hW.block _ zb2).trans nB2
        exact⟨⟨e0▸h 0 (by omega),e1▸h 1 (by omega),e2▸h 2 (by omega),e3▸h 3 (by omega),e4▸h 4 (by omega)⟩,(aA1 hb 0 (by simp)).1,(aA1 hb 1 (by simp)).1,(aA1 hb 2 (by simp)).1,(aA1 hb 3 (by simp)).1,(aA1 hb 4 (by simp)).1⟩
       have HFS:=aA0 (HFR.out m)
       have HMK:Hid (∀W v2 v3 v4,Calls Tryz.prog 81 #[.agg #[.string (sth ks m).al,.string (sth ks m).name,v2,v3,v4]] W fun e w'=>e=.returned (.string (keyS (sth ks m)))∧Below W.heap.size W w'):=fun W v2 v3 v4=>aD7 (sth ks m) W v2 v3 v4
       have HHIT:Hid (((keyS (sth ks m)).toList==key.toList)=true→aBV ks key k=false):=aA0 fun h=>by
        cases e:aBV ks key k with
        |false=>rfl
        |true=>exact absurd (by simpa using h) ((aDS _ _ _).1 e m hmk)
       clear e0 e1 e2 e3 e4
       generalize sth ks m=sm at*
       generalize keyS sm=km at*
       obtain⟨⟨r0,r1,r2,r3,r4⟩,u0,u1,u2,u3,u4⟩:=HC.out w2 (Below.refl _ _)
       go_wp2_with fail
       go_cut [83] (fun r wx=>r=.bool (km.toList==key.toList)∧Below w2.heap.size w2 wx)
       case first=>
        go_region_held3 (fun w'=>w'.cell? ⟨kb,koff+m*5,none⟩=some (.string sm.al)∧w'.cell? ⟨kb,koff+m*5+1,none⟩=some (.string sm.name)∧w'.cell? ⟨kb,koff+m*5+2,none⟩=some (.bool sm.one)∧w'.cell? ⟨kb,koff+m*5+3,none⟩=some (.int .i64 sm.id)∧w'.cell? ⟨kb,koff+m*5+4,none⟩=some (.slice ma sm.kids.length mc)∧w'.cell? ⟨w0.heap.size,0,none⟩=some (.string al)∧w'.cell? ⟨w0.heap.size,1,none⟩=some (.string name)∧w'.cell? ⟨w0.heap.size,2,none⟩=some (.bool true)∧w'.cell? ⟨w0.heap.size,3,none⟩=some (.int .i64 id)∧w'.cell? ⟨w0.heap.size,4,none⟩=some (.slice sa s.kids.length sc)) (go_keep)
         (first
          |(
           go_at_call_of 81 (Value.string sm.name)
           refine(HMK.out w2.drew _ _ _).mono ?_
           rintro e w3 ⟨rfl,hb3⟩
           have hb3':=aA6 hb3
           obtain⟨⟨a0,a1,a2,a3,a4⟩,d0,d1,d2,d3,d4⟩:=HC.out w3 hb3'
           clear hb3)
          |(
           go_at_call_of 81 (Value.string name)
           refine(HKY.out w3 _ _ _).mono ?_
           rintro e w4 ⟨rfl,hb4⟩
           have hb4':=hb3'.trans (hb4.mono hb3'.size)
           obtain⟨⟨f0,f1,f2,f3,f4⟩,g0,g1,g2,g3,g4⟩:=HC.out w4 hb4'
           clear hb4))
        all_goals
         go_wp2_with fail
         go_meet
         case rel=>exact⟨rfl,hb4'⟩
       case rest=>
       obtain⟨rfl,hb4⟩:=hcut
       obtain⟨w4,rfl⟩:∃x,x=wc:=⟨wc,rfl⟩
       clear r0 r1 r2 r3 r4 u0 u1 u2 u3 u4
       have bw4:=hb2.trans (hb4.mono hb2.size)
       cases hq:(km.toList==key.toList)
       ·go_wp2_with fail
        go_roundw
        case measure=>simp[intOf];omega
        case rel=>exact⟨m+1,by omega,by go_num,aA0 (by rw[HFS.out,HFM.out,hq];rfl),bw4,(hb4.block _ zb2).trans nB2,by have:=hb4.size;omega⟩
       ·go_wp2_with fail
        go_ret
        exact⟨⟨-1,rfl,HBAD.out false (by rw[HHIT.out hq];simp) rfl⟩,bw4⟩
     ·have hs:sel=false:=by rw[HSE.out];simp only[Bool.and_eq_false_iff];right;simp only[decide_eq_false_iff_not];omega
      have hi1:(decide (0≤id)&&decide (id≤999999))=false:=by simp only[Bool.and_eq_false_iff,decide_eq_false_iff_not];omega
      simp only[hi1] at NI
      go_wp2_with (first
       |(
        go_at_call_of 77 (Value.string name)
        refine(N1 _).mono ?_
        rintro e w' ⟨rfl,rfl⟩)
       |(
        go_at_call_of 77 (Value.string al)
        refine(N2 _).mono ?_
        rintro e w' ⟨rfl,rfl⟩)
       |(
        go_at_call 87
        refine(NI _).mono ?_
        rintro e w' ⟨rfl,rfl⟩))
      go_ret
      exact⟨⟨-1,rfl,HBAD.out false (by rw[hs];rfl) rfl⟩,hbox⟩
   ·rw[he] at HSE
    cases one
    ·by_cases hid:id=0
     ·subst hid
      have hs:sel=true:=by rw[HSE.out];simp
      have NI:=fun W=>aGP 0 0 999999 W
      go_wp2_with (first
       |(
        go_at_call_of 77 (Value.string name)
        refine(N1 _).mono ?_
        rintro e w' ⟨rfl,rfl⟩)
       |(
        go_at_call_of 77 (Value.string al)
        refine(N2 _).mono ?_
        rintro e w' ⟨rfl,rfl⟩)
       |(
        go_at_call 87
        refine(NI _).mono ?_
        rintro e w' ⟨rfl,rfl⟩))
      clear q0 q1 q2 q3 q4 N1 N2 NI
      go_loopw [10] (fun i wr=>∃(m:Nat),m≤k∧i=.int .i64 m∧Hid (aBV ks key m=true)∧Below w.heap.size w wr∧wr.heap[w0.heap.size]?=some (.cells #[.string al,.string name,.bool false,.int .i64 0,.slice sa s.kids.length sc] 56 (0,0))∧w0.heap.size<wr.heap.size) (fun i _=>k- (intOf i).toNat)
      case atStart=>exact⟨0,Nat.zero_le _,rfl,aA0 (by simp[aBV]),hbox,nB,by simp⟩
      case round=>
       clear hbox nB
       obtain⟨m,hm,rfl,HFM,hb2,nB2,zb2⟩:=hrel
       obtain⟨w2,rfl⟩:∃x,x=wr:=⟨wr,rfl⟩
       by_cases hmk:m<k
       case neg=>
        have e:m=k:=by omega
        subst e
        obtain⟨u4,-⟩:=aA1 nB2 4 (by simp)
        have HR2:=aA0 (HIH.out w2 hb2)
        go_wp2_with fail
        refine HR2.out.mono ?_
        rintro e w3 ⟨⟨x,rfl,hP⟩,hb3⟩
        have HX:=aA0 (HNX.out x (by rw[hs,HFM.out];rfl) hP)
        clear hP
        go_wp2_with fail
        go_roundw
        case measure=>simp[intOf];omega
        case rel=>exact⟨m+1,x,by omega,by go_num,rfl,HX,hb2.trans (hb3.mono hb2.size)⟩
       have hmi:(m:Int)<(k:Int):=by omega
       have hml:(m:Int)<(ks.length:Int):=by omega
       have hmlt:m<ks.length:=by omega
       obtain⟨ma,mc,e0,e1,e2,e3,e4,-,-,-⟩:=(hr m hmlt).pieces
       have HC:Hid (∀W,Below w2.heap.size w2 W→(W.cell? ⟨kb,koff+m*5,none⟩=some (.string (sth ks m).al)∧W.cell? ⟨kb,koff+m*5+1,none⟩=some (.string (sth ks m).name)∧W.cell? ⟨kb,koff+m*5+2,none⟩=some (.bool (sth ks m).one)∧W.cell? ⟨kb,koff+m*5+3,none⟩=some (.int .i64 (sth ks m).id)∧W.cell? ⟨kb,koff+m*5+4,none⟩=some (.slice ma (sth ks m).kids.length mc))∧(W.cell? ⟨w0.heap.size,0,none⟩=some (.string al)∧W.cell? ⟨w0.heap.size,1,none⟩=some (.string name)∧W.cell? ⟨w0.heap.size,2,none⟩=some (.bool false)∧W.cell? ⟨w0.heap.size,3,none⟩=some (.int .i64 0)∧W.cell? ⟨w0.heap.size,4,none⟩=some (.slice sa s.kids.length sc))):=aA0 fun W hW=>by
        have h:∀j,j<5→W.cell? ⟨kb,koff+m*5+j,none⟩=some (C m j):=fun j hj=>((hb2.trans (hW.mono hb2.size)).cell (p:=⟨kb,koff+m*5+j,none⟩) (by show kb<_;omega)).trans (hkc m hmlt j hj)
        have hb:=(hW.block _ zb2).trans nB2
        exact⟨⟨e0▸h 0 (by omega),e1▸h 1 (by omega),e2▸h 2 (by omega),e3▸h 3 (by omega),e4▸h 4 (by omega)⟩,(aA1 hb 0 (by simp)).1,(aA1 hb 1 (by simp)).1,(aA1 hb 2 (by simp)).1,(aA1 hb 3 (by simp)).1,(aA1 hb 4 (by simp)).1⟩
       have HFS:=aA0 (HFR.out m)
       have HMK:Hid (∀W v2 v3 v4,Calls Tryz.prog 81 #[.agg #[.string (sth ks m).al,.string (sth ks m).name,v2,v3,v4]] W fun e w'=>e=.returned (.string (keyS (sth ks m)))∧Below W.heap.size W w'):=fun W v2 v3 v4=>aD7 (sth ks m) W v2 v3 v4
       have HHIT:Hid (((keyS (sth ks m)).toList==key.toList)=true→aBV ks key k=false):=aA0 fun h=>by
        cases e:aBV ks key k with
        |false=>rfl
        |true=>exact absurd (by simpa using h) ((aDS _ _ _).1 e m hmk)
       clear e0 e1 e2 e3 e4
       generalize sth ks m=sm at*
       generalize keyS sm=km at*
       obtain⟨⟨r0,r1,r2,r3,r4⟩,u0,u1,u2,u3,u4⟩:=HC.out w2 (Below.refl _ _)
       go_wp2_with fail
       go_cut [83] (fun r wx=>r=.bool (km.toList==key.toList)∧Below w2.heap.size w2 wx)
       case first=>
        go_region_held3 (fun w'=>w'.cell? ⟨kb,koff+m*5,none⟩=some (.string sm.al)∧w'.cell? ⟨kb,koff+m*5+1,none⟩=some (.string sm.name)∧w'.cell? ⟨kb,koff+m*5+2,none⟩=some (.bool sm.one)∧w'.cell? ⟨kb,koff+m*5+3,none⟩=some (.int .i64 sm.id)∧w'.cell? ⟨kb,koff+m*5+4,none⟩=some (.slice ma sm.kids.length mc)∧w'.cell? ⟨w0.heap.size,0,none⟩=some (.string al)∧w'.cell? ⟨w0.heap.size,1,none⟩=some (.string name)∧w'.cell? ⟨w0.heap.size,2,none⟩=some (.bool false)∧w'.cell? ⟨w0.heap.size,3,none⟩=some (.int .i64 0)∧w'.cell? ⟨w0.heap.size,4,none⟩=some (.slice sa s.kids.length sc)) (go_keep)
         (first
          |(
           go_at_call_of 81 (Value.string sm.name)
           refine(HMK.out w2.drew _ _ _).mono ?_
           rintro e w3 ⟨rfl,hb3⟩
           have hb3':=aA6 hb3
           obtain⟨⟨a0,a1,a2,a3,a4⟩,d0,d1,d2,d3,d4⟩:=HC.out w3 hb3'
           clear hb3)
          |(
           go_at_call_of 81 (Value.string name)
           refine(HKY.out w3 _ _ _).mono ?_
           rintro e w4 ⟨rfl,hb4⟩
           have hb4':=hb3'.trans (hb4.mono hb3'.size)
           obtain⟨⟨f0,f1,f2,f3,f4⟩,g0,g1,g2,g3,g4⟩:=HC.out w4 hb4'
           clear hb4))
        all_goals
         go_wp2_with fail
         go_meet
         case rel=>exact⟨rfl,hb4'⟩
       case rest=>
       obtain⟨rfl,hb4⟩:=hcut
       obtain⟨w4,rfl⟩:∃x,x=wc:=⟨wc,rfl⟩
       clear r0 r1 r2 r3 r4 u0 u1 u2 u3 u4
       have bw4:=hb2.trans (hb4.mono hb2.size)
       cases hq:(km.toList==key.toList)
       ·go_wp2_with fail
        go_roundw
        case measure=>simp[intOf];omega
        case rel=>exact⟨m+1,by omega,by go_num,aA0 (by rw[HFS.out,HFM.out,hq];rfl),bw4,(hb4.block _ zb2).trans nB2,by have:=hb4.size;omega⟩
       ·go_wp2_with fail
        go_ret
        exact⟨⟨-1,rfl,HBAD.out false (by rw[HHIT.out hq];simp) rfl⟩,bw4⟩
     ·have hs:sel=false:=by rw[HSE.out];simp[hid]
      go_wp2_with (first
       |(
        go_at_call_of 77 (Value.string name)
        refine(N1 _).mono ?_
        rintro e w' ⟨rfl,rfl⟩)
       |(
        go_at_call_of 77 (Value.string al)
        refine(N2 _).mono ?_
        rintro e w' ⟨rfl,rfl⟩)
       |(
        go_at_call 87
        refine(NI _).mono ?_
        rintro e w' ⟨rfl,rfl⟩))
      go_ret
      exact⟨⟨-1,rfl,HBAD.out false (by rw[hs];rfl) rfl⟩,hbox⟩
    ·by_cases hid:0≤id∧id≤999999
     ·have hs:sel=true:=by rw[HSE.out];simp[hid.1,hid.2]
      have hi1:(decide (0≤id)&&decide (id≤999999))=true:=by simp[hid.1,hid.2]
      simp only[hi1] at NI
      go_wp2_with (first
       |(
        go_at_call_of 77 (Value.string name)
        refine(N1 _).mono ?_
        rintro e w' ⟨rfl,rfl⟩)
       |(
        go_at_call_of 77 (Value.string al)
        refine(N2 _).mono ?_
        rintro e w' ⟨rfl,rfl⟩)
       |(
        go_at_call 87
        refine(NI _).mono ?_
        rintro e w' ⟨rfl,rfl⟩))
      clear q0 q1 q2 q3 q4 N1 N2 NI
      go_loopw [10] (fun i wr=>∃(m:Nat),m≤k∧i=.int .i64 m∧Hid (aBV ks key m=true)∧Below w.heap.size w wr∧wr.heap[w0.heap.size]?=some (.cells #[.string al,.string name,.bool true,.int .i64 id,.slice sa s.kids.length sc] 56 (0,0))∧w0.heap.size<wr.heap.size) (fun i _=>k- (intOf i).toNat)
      case atStart=>exact⟨0,Nat.zero_le _,rfl,aA0 (by simp[aBV]),hbox,nB,by simp⟩
      case round=>
       clear hbox nB
       obtain⟨m,hm,rfl,HFM,hb2,nB2,zb2⟩:=hrel
       obtain⟨w2,rfl⟩:∃x,x=wr:=⟨wr,rfl⟩
       by_cases hmk:m<k
       case neg=>
        have e:m=k:=by omega
        subst e
        obtain⟨u4,-⟩:=aA1 nB2 4 (by simp)
        have HR2:=aA0 (HIH.out w2 hb2)
        go_wp2_with fail
        refine HR2.out.mono ?_
        rintro e w3 ⟨⟨x,rfl,hP⟩,hb3⟩
        have HX:=aA0 (HNX.out x (by rw[hs,HFM.out];rfl) hP)
        clear hP
        go_wp2_with fail
        go_roundw
        case measure=>simp[intOf];omega
        case rel=>exact⟨m+1,x,by omega,by go_num,rfl,HX,hb2.trans (hb3.mono hb2.size)⟩
       have hmi:(m:Int)<(k:Int):=by omega
       have hml:(m:Int)<(ks.length:Int):=by omega
       have hmlt:m<ks.length:=by omega
       obtain⟨ma,mc,e0,e1,e2,e3,e4,-,-,-⟩:=(hr m hmlt).pieces
       have HC:Hid (∀W,Below w2.heap.size w2 W→(W.cell? ⟨kb,koff+m*5,none⟩=some (.string (sth ks m).al)∧W.cell? ⟨kb,koff+m*5+1,none⟩=some (.string (sth ks m).name)∧W.cell? ⟨kb,koff+m*5+2,none⟩=some (.bool (sth ks m).one)∧W.cell? ⟨kb,koff+m*5+3,none⟩=some (.int .i64 (sth ks m).id)∧W.cell? ⟨kb,koff+m*5+4,none⟩=some (.slice ma (sth ks m).kids.length mc))∧(W.cell? ⟨w0.heap.size,0,none⟩=some (.string al)∧W.cell? ⟨w0.heap.size,1,none⟩=some (.string name)∧W.cell? ⟨w0.heap.size,2,none⟩=some (.bool true)∧W.cell? ⟨w0.heap.size,3,none⟩=some (.int .i64 id)∧W.cell? ⟨w0.heap.size,4,none⟩=some (.slice sa s.kids.length sc))):=aA0 fun W hW=>by
        have h:∀j,j<5→W.cell? ⟨kb,koff+m*5+j,none⟩=some (C m j):=fun j hj=>((hb2.trans (hW.mono hb2.size)).cell (p:=⟨kb,koff+m*5+j,none⟩) (by show kb<_;omega)).trans (hkc m hmlt j hj)
        have hb:=(hW.block _ zb2).trans nB2
        exact⟨⟨e0▸h 0 (by omega),e1▸h 1 (by omega),e2▸h 2 (by omega),e3▸h 3 (by omega),e4▸h 4 (by omega)⟩,(aA1 hb 0 (by simp)).1,(aA1 hb 1 (by simp)).1,(aA1 hb 2 (by simp)).1,(aA1 hb 3 (by simp)).1,(aA1 hb 4 (by simp)).1⟩
       have HFS:=aA0 (HFR.out m)
       have HMK:Hid (∀W v2 v3 v4,Calls Tryz.prog 81 #[.agg #[.string (sth ks m).al,.string (sth ks m).name,v2,v3,v4]] W fun e w'=>e=.returned (.string (keyS (sth ks m)))∧Below W.heap.size W w'):=fun W v2 v3 v4=>aD7 (sth ks m) W v2 v3 v4
       have HHIT:Hid (((keyS (sth ks m)).toList==key.toList)=true→aBV ks key k=false):=aA0 fun h=>by
        cases e:aBV ks key k with
        |false=>rfl
        |true=>exact absurd (by simpa using h) ((aDS _ _ _).1 e m hmk)
       clear e0 e1 e2 e3 e4
       generalize sth ks m=sm at*
       generalize keyS sm=km at*
       obtain⟨⟨r0,r1,r2,r3,r4⟩,u0,u1,u2,u3,u4⟩:=HC.out w2 (Below.refl _ _)
       go_wp2_with fail
       go_cut [83] (fun r wx=>r=.bool (km.toList==key.toList)∧Below w2.heap.size w2 wx)
       case first=>
        go_region_held3 (fun w'=>w'.cell? ⟨kb,koff+m*5,none⟩=some (.string sm.al)∧w'.cell? ⟨kb,koff+m*5+1,none⟩=some (.string sm.name)∧w'.cell? ⟨kb,koff+m*5+2,none⟩=some (.bool sm.one)∧w'.cell? ⟨kb,koff+m*5+3,none⟩=some (.int .i64 sm.id)∧w'.cell? ⟨kb,koff+m*5+4,none⟩=some (.slice ma sm.kids.length mc)∧w'.cell? ⟨w0.heap.size,0,none⟩=some (.string al)∧w'.cell? ⟨w0.heap.size,1,none⟩=some (.string name)∧w'.cell? ⟨w0.heap.size,2,none⟩=some (.bool true)∧w'.cell? ⟨w0.heap.size,3,none⟩=some (.int .i64 id)∧w'.cell? ⟨w0.heap.size,4,none⟩=some (.slice sa s.kids.length sc)) (go_keep)
         (first
          |(
           go_at_call_of 81 (Value.string sm.name)
           refine(HMK.out w2.drew _ _ _).mono ?_
           rintro e w3 ⟨rfl,hb3⟩
           have hb3':=aA6 hb3
           obtain⟨⟨a0,a1,a2,a3,a4⟩,d0,d1,d2,d3,d4⟩:=HC.out w3 hb3'
           clear hb3)
          |(
           go_at_call_of 81 (Value.string name)
           refine(HKY.out w3 _ _ _).mono ?_
           rintro e w4 ⟨rfl,hb4⟩
           have hb4':=hb3'.trans (hb4.mono hb3'.size)
           obtain⟨⟨f0,f1,f2,f3,f4⟩,g0,g1,g2,g3,g4⟩:=HC.out w4 hb4'
           clear hb4))
        all_goals
         go_wp2_with fail
         go_meet
         case rel=>exact⟨rfl,hb4'⟩
       case rest=>
       obtain⟨rfl,hb4⟩:=hcut
       obtain⟨w4,rfl⟩:∃x,x=wc:=⟨wc,rfl⟩
       clear r0 r1 r2 r3 r4 u0 u1 u2 u3 u4
       have bw4:=hb2.trans (hb4.mono hb2.size)
       cases hq:(km.toList==key.toList)
       ·go_wp2_with fail
        go_roundw
        case measure=>simp[intOf];omega
        case rel=>exact⟨m+1,by omega,by go_num,aA0 (by rw[HFS.out,HFM.out,hq];rfl),bw4,(hb4.block _ zb2).trans nB2,by have:=hb4.size;omega⟩
       ·go_wp2_with fail
        go_ret
        exact⟨⟨-1,rfl,HBAD.out false (by rw[HHIT.out hq];simp) rfl⟩,bw4⟩
     ·have hs:sel=false:=by rw[HSE.out];simp only[Bool.and_eq_false_iff];right;simp only[decide_eq_false_iff_not];omega
      have hi1:(decide (0≤id)&&decide (id≤999999))=false:=by simp only[Bool.and_eq_false_iff,decide_eq_false_iff_not];omega
      simp only[hi1] at NI
      go_wp2_with (first
       |(
        go_at_call_of 77 (Value.string name)
        refine(N1 _).mono ?_
        rintro e w' ⟨rfl,rfl⟩)
       |(
        go_at_call_of 77 (Value.string al)
        refine(N2 _).mono ?_
        rintro e w' ⟨rfl,rfl⟩)
       |(
        go_at_call 87
        refine(NI _).mono ?_
        rintro e w' ⟨rfl,rfl⟩))
      go_ret
      exact⟨⟨-1,rfl,HBAD.out false (by rw[hs];rfl) rfl⟩,hbox⟩
end Go.Proofs.YtokmgbidmnanpaaGreatDoor
