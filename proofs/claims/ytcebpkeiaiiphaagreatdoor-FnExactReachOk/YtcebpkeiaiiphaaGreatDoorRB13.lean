import Derived.Test.YtcebpkeiaiiphaaGreatDoorRB12
set_option linter.unusedSimpArgs false
set_option linter.unusedVariables false
namespace Go.Proofs.YtcebpkeiaiiphaaGreatDoor
open Go.RowKit
def aAQ(t:T):Bool:=aBA t.name&&(t.key.toList.isEmpty||aBA t.key)&&decide (0<t.fields.length)&&decide (t.fields.length≤8)&&aAO t.fields t.fields.length
set_option maxHeartbeats 1600000 in
theorem aHE(t:T)(w:World)(B:Nat)(v:Value)(hR:TRep w (·<B) t v)(hB:B≤w.heap.size):
  Calls Tryz.prog 131 #[v] w fun e w'=>e=.returned (.bool (aAQ t))∧Below w.heap.size w w':=by
 obtain⟨name,key,fields⟩:=t
 obtain⟨fa,fc,rfl,hK,hnc,hn,ho⟩:=hR
 simp only at hK hnc hn ho
 have h3:=hK.1
 have hN1:=fun w=>aDK name w hn
 have hN2:=fun w=>aDK key w ho
 have HT:Hid (aAQ ⟨name,key,fields⟩=(aBA name&&(key.toList.isEmpty||aBA key)&&decide (0<fields.length)&&decide (fields.length≤8)&&aAO fields fields.length)):=rfl
 cases x1:aBA name
 ·rw[x1] at hN1
  go_enter Tryz.func131,Tryz.ntmps131
  go_wp2_with (go_at_call_of 94 (Value.string name);refine(hN1 _).mono ?_;rintro e w' ⟨rfl,rfl⟩)
  go_ret
  exact⟨aA4 (by rw[HT.out,x1];rfl),aA2 _ _⟩
 rw[x1] at hN1
 have key2:∀b1:Bool,key.toList.isEmpty=b1→(b1=false→aBA key=true)→Calls Tryz.prog 131 #[.agg #[.string name,.string key,.slice fa fields.length fc]] w fun e w'=>e=.returned (.bool (aAQ ⟨name,key,fields⟩))∧Below w.heap.size w w':=by
  intro b1 hb1 hb2
  have HE:Hid (aAQ ⟨name,key,fields⟩=(decide (0<fields.length)&&decide (fields.length≤8)&&aAO fields fields.length)):=by
   show _=_
   rw[HT.out,x1,hb1]
   cases b1
   ·rw[hb2 rfl];rfl
   ·rfl
  have key3:∀(hlen:0<fields.length∧fields.length≤8∨¬(0<fields.length∧fields.length≤8)),Calls Tryz.prog 131 #[.agg #[.string name,.string key,.slice fa fields.length fc]] w fun e w'=>e=.returned (.bool (aAQ ⟨name,key,fields⟩))∧Below w.heap.size w w':=by
   intro hlen
   rcases hlen with hlen| hlen
   ·have d1:((fields.length:Int)==0)=false:=by simp;intro e;simp[e] at hlen
    have d2:decide ((8:Int)<(fields.length:Int))=false:=decide_eq_false (by omega)
    have d3:decide (8<fields.length)=false:=decide_eq_false (by omega)
    have HE2:Hid (aAQ ⟨name,key,fields⟩=aAO fields fields.length):=by
     show _=_
     rw[HE.out,decide_eq_true hlen.1,decide_eq_true hlen.2];rfl
    cases b1
    all_goals
     first| (have hb3:=hb2 rfl;rw[hb3] at hN2;clear hb3)| skip
     clear hb2
     go_enter Tryz.func131,Tryz.ntmps131
     go_wp2_with (first| (go_at_call_of 94 (Value.string name);refine(hN1 _).mono ?_;rintro e w' ⟨rfl,rfl⟩)| (go_at_call_of 94 (Value.string key);refine(hN2 _).mono ?_;rintro e w' ⟨rfl,rfl⟩))
     go_loopw [33] (fun i wr=>∃k:Nat,k≤fields.length∧i=.int .i64 k∧Below w.heap.size w wr∧aAO fields k=true) (fun i _=>fields.length- (intOf i).toNat)
     case atStart=>exact⟨0,Nat.zero_le _,rfl,aA2 _ _,rfl⟩
     case round=>
      obtain⟨k,hk,rfl,hbw,hp⟩:=hrel
      have HP:Hid (aAO fields k=true):=hp
      clear hp
      have hz:=hbw.size
      by_cases hlt:k<fields.length
      ·obtain⟨b,off,na,nc,rfl,hfr,hcs⟩:=hK.at hB k hlt
       obtain⟨c0,c1,c2,c3,c4,c5,c6,c7⟩:=hcs wr hbw
       have hFN:=fun o=>aGL (fth fields k) (wr.alloc o) B _ (hfr.under ((hbw.alloc hz o).mono hB)) (by simp;omega)
       clear hcs
       cases x3:aBS (fth fields k)
       ·rw[x3] at hFN
        have hres:Hid (aAO fields fields.length=false):=aBL (k:=k) hlt x3
        go_wp2_with (go_at_call 159;refine(hFN _).mono ?_;rintro e w1 ⟨rfl,hb1'⟩)
        go_ret
        exact⟨aA4 (by rw[HE2.out,hres.out]),(hbw.alloc hz _).trans (hb1'.mono (by simp;omega))⟩
       ·rw[x3] at hFN
        go_wp2_with (go_at_call 159;refine(hFN _).mono ?_;rintro e w1 ⟨rfl,hb1'⟩)
        go_roundw
        case rel=>exact⟨k+1,by omega,by go_num,(hbw.alloc hz _).trans (hb1'.mono (by simp;omega)),by rw[aE5,HP.out,x3];rfl⟩
        case measure=>simp[intOf];omega
      ·go_wp2_with fail
       go_ret
       have e:k=fields.length:=by omega
       exact⟨aA4 (by rw[HE2.out,←e,HP.out]),hbw⟩
   ·have HE2:Hid (aAQ ⟨name,key,fields⟩=false):=by
     show _=_
     rw[HE.out]
     by_cases h0:0<fields.length
     ·have:¬fields.length≤8:=fun h=>hlen ⟨h0,h⟩
      simp[this]
     ·simp[h0]
    have dd:((fields.length:Int)==0)=true∨((fields.length:Int)==0)=false∧decide ((8:Int)<(fields.length:Int))=true:=by
     by_cases h0:fields.length=0
     ·left;simp;exact List.eq_nil_of_length_eq_zero h0
     ·right
      refine⟨by simp;intro e;simp[e] at h0,decide_eq_true ?_⟩
      have:¬fields.length≤8:=fun h=>hlen ⟨by omega,h⟩
      omega
    clear hlen
    rcases dd with d1| ⟨d1,d2⟩
    all_goals
     cases b1
     all_goals
      first| (have hb3:=hb2 rfl;rw[hb3] at hN2;clear hb3)| skip
      clear hb2
      go_enter Tryz.func131,Tryz.ntmps131
      go_wp2_with (first| (go_at_call_of 94 (Value.string name);refine(hN1 _).mono ?_;rintro e w' ⟨rfl,rfl⟩)| (go_at_call_of 94 (Value.string key);refine(hN2 _).mono ?_;rintro e w' ⟨rfl,rfl⟩))
      go_ret
      exact⟨aA4 HE2.out.symm,aA2 _ _⟩
  exact key3 (Classical.em _)
 cases x2:key.toList.isEmpty
 ·cases x3:aBA key
  ·rw[x3] at hN2
   go_enter Tryz.func131,Tryz.ntmps131
   go_wp2_with (first| (go_at_call_of 94 (Value.string name);refine(hN1 _).mono ?_;rintro e w' ⟨rfl,rfl⟩)| (go_at_call_of 94 (Value.string key);refine(hN2 _).mono ?_;rintro e w' ⟨rfl,rfl⟩))
   go_ret
   exact⟨aA4 (by rw[HT.out,x2,x3];simp),aA2 _ _⟩
  ·exact key2 false x2 fun _=>x3
 ·exact key2 true x2 fun h=>by cases h
theorem aCP.at{w:World}{B:Nat}{ts:List T}{ta:Option Addr}(h:aCP w (·<B) ts ta)(hB:B≤w.heap.size)(k:Nat)(hk:k<ts.length):∃(b off:Nat) (fa:Option Addr) (fc:Nat),ta=some ⟨b,off,none⟩∧
  TRep w (·<B) (tth ts k) (.agg #[.string (tth ts k).name,.string (tth ts k).key,.slice fa (tth ts k).fields.length fc])∧
  ∀W,Below w.heap.size w W→W.cell? ⟨b,off+k*3,none⟩=some (.string (tth ts k).name)∧W.cell? ⟨b,off+k*3+1,none⟩=some (.string (tth ts k).key)∧W.cell? ⟨b,off+k*3+2,none⟩=some (.slice fa (tth ts k).fields.length fc):=by
 obtain⟨-,C,hA,hr⟩:=h
 obtain⟨b,off,rfl,hbB,hc⟩:=hA (by omega)
 have hkt:=hr k hk
 obtain⟨fa,fc,e0,e1,e2,-⟩:=(hr k hk).parts
 rw[e0,e1,e2] at hkt
 refine⟨b,off,fa,fc,rfl,hkt,fun W hb=>?_⟩
 have hck:∀j,j<3→W.cell? ⟨b,off+k*3+j,none⟩=some (C k j):=fun j hj=>(hb.cell (p:=⟨b,off+k*3+j,none⟩) (by show b<_;omega)).trans (hc k hk j hj)
 have c0:W.cell? ⟨b,off+k*3,none⟩=some (C k 0):=hck 0 (by omega)
 rw[c0,hck 1 (by omega),hck 2 (by omega),e0,e1,e2]
 exact⟨rfl,rfl,rfl⟩
def aKN(p:Pt)(f:F):Bool:=decide (0≤aAS p f.of)||aAV f.of
def aC0(p:Pt)(fs:List F)(n:Nat):Bool:=(List.range n).all fun i=>aKN p (fth fs i)
theorem aDZ(p:Pt)(fs:List F)(n:Nat):aC0 p fs (n+1)=(aC0 p fs n&&aKN p (fth fs n)):=by simp[aC0,List.range_succ]
set_option maxHeartbeats 1600000 in
theorem aIY(p:Pt)(t:T)(w:World)(B:Nat)(v u:Value)(hP:PRep w (·<B) p v)(hR:TRep w (·<B) t u)(hB:B≤w.heap.size):
  Calls Tryz.prog 133 #[v,u] w fun e w'=>e=.returned (.bool (aC0 p t.fields t.fields.length))∧Below w.heap.size w w':=by
 have hP':=hP
 obtain⟨pname,types⟩:=p
 obtain⟨ta,tc,rfl,-,-,-⟩:=hP
 obtain⟨name,key,fields⟩:=t
 obtain⟨fa,fc,rfl,hK,hnc,hn,ho⟩:=hR
 simp only at hK hnc hn ho hP' ⊢
 have h3:=hK.1
 go_enter Tryz.func133,Tryz.ntmps133
 go_wp2_with fail
 go_loopw [12] (fun i wr=>∃k:Nat,k≤fields.length∧i=.int .i64 k∧Below (w.heap.size+1) (w.alloc (.cells #[.string pname,.slice ta types.length tc] 46)) wr∧w.heap.size<wr.heap.size∧aC0 ⟨pname,types⟩ fields k=true) (fun i _=>fields.length- (intOf i).toNat)
 case atStart=>exact⟨0,Nat.zero_le _,rfl,(Below.refl _ _).alloc (by simp) _,by simp;omega,rfl⟩
 case round=>
  obtain⟨k,hk,rfl,hbel,hz,hp⟩:=hrel
  have HP:Hid (aC0 ⟨pname,types⟩ fields k=true):=hp
  clear hp
  have hbw:Below w.heap.size w wr:=(aA2 w _).trans (hbel.mono (by omega))
  have hcell:∀W,Below (w.heap.size+1) (w.alloc (.cells #[.string pname,.slice ta types.length tc] 46)) W→W.cell? ⟨w.heap.size,0,none⟩=some (.string pname)∧W.cell? ⟨w.heap.size,1,none⟩=some (.slice ta types.length tc):=fun W h=>
   ⟨(h.cell (p:=⟨w.heap.size,0,none⟩) (by show w.heap.size<_;omega)).trans (aBR _ _ 0 (by simp)),(h.cell (p:=⟨w.heap.size,1,none⟩) (by show w.heap.size<_;omega)).trans (aBR _ _ 1 (by simp))⟩
  by_cases hlt:k<fields.length
  ·obtain⟨b,off,na,nc,rfl,hfr,hcs⟩:=hK.at hB k hlt
   obtain⟨c0,c1,c2,c3,c4,c5,c6,c7⟩:=hcs wr hbw
   have q:=fun o=>hcell (wr.alloc o) (hbel.alloc (by omega) o)
   have q0:=fun o=>(q o).1
   have q1:=fun o=>(q o).2
   have hft:=fun o=>aHS ⟨pname,types⟩ (wr.alloc o) B _ (fth fields k).of (hP'.under ((hbw.alloc (by omega) o).mono hB)) (by simp;omega)
   have hL:=fun w=>aFT (fth fields k).of w
   have hB5:=fun w1 o (hb1:Below (wr.alloc o).heap.size (wr.alloc o) w1)=>(hb1.cell (p:=⟨wr.heap.size,1,none⟩) (by show wr.heap.size<_;simp))
   clear hcs q
   have HK:Hid (aKN ⟨pname,types⟩ (fth fields k)=(decide (0≤aAS ⟨pname,types⟩ (fth fields k).of)||aAV (fth fields k).of)):=rfl
   cases x1:decide (0≤aAS ⟨pname,types⟩ (fth fields k).of)
   ·rw[x1] at hft
    cases x2:aAV (fth fields k).of
    ·rw[x2] at hL
     have hres:Hid (aC0 ⟨pname,types⟩ fields fields.length=false):=aBL (k:=k) hlt (by rw[HK.out,x1,x2];rfl)
     go_wp2_with (first
      |(
       go_at_call 55
       refine(hft _).mono ?_
       rintro e w1 ⟨nm,ky,fa2,fl2,fc2,rfl,hb1,-⟩
       have z1:=hb1.size
       simp at z1
       have g1:∀o,(w1.alloc o).cell? ⟨wr.heap.size,1,none⟩=some (.string (fth fields k).of):=fun o=>((aA2 w1 o).cell (p:=⟨wr.heap.size,1,none⟩) (by show wr.heap.size<_;omega)).trans ((hB5 w1 _ hb1).trans (aBR _ _ 1 (by simp))))
      |(go_at_call 59;refine(hL _).mono ?_;rintro e w' ⟨rfl,rfl⟩))
     go_ret
     exact⟨aA4 hres.out.symm,((hbw.alloc (by omega) _).trans (hb1.mono (by simp;omega))).alloc (by omega) _⟩
    ·rw[x2] at hL
     go_wp2_with (first
      |(
       go_at_call 55
       refine(hft _).mono ?_
       rintro e w1 ⟨nm,ky,fa2,fl2,fc2,rfl,hb1,-⟩
       have z1:=hb1.size
       simp at z1
       have g1:∀o,(w1.alloc o).cell? ⟨wr.heap.size,1,none⟩=some (.string (fth fields k).of):=fun o=>((aA2 w1 o).cell (p:=⟨wr.heap.size,1,none⟩) (by show wr.heap.size<_;omega)).trans ((hB5 w1 _ hb1).trans (aBR _ _ 1 (by simp))))
      |(go_at_call 59;refine(hL _).mono ?_;rintro e w' ⟨rfl,rfl⟩))
     go_roundw
     case rel=>exact⟨k+1,by omega,by go_num,((hbel.alloc (by omega) _).trans (hb1.mono (by simp;omega))).alloc (by omega) _,by simp;omega,by rw[aDZ,HP.out,HK.out,x1,x2];rfl⟩
     case measure=>simp[intOf];omega
   ·rw[x1] at hft
    go_wp2_with (go_at_call 55;refine(hft _).mono ?_;rintro e w1 ⟨nm,ky,fa2,fl2,fc2,rfl,hb1,-⟩)
    have z1:=hb1.size
    simp at z1
    go_roundw
    case rel=>exact⟨k+1,by omega,by go_num,((hbel.alloc (by omega) _).trans (hb1.mono (by simp;omega))).alloc (by omega) _,by simp;omega,by rw[aDZ,HP.out,HK.out,x1];rfl⟩
    case measure=>simp[intOf];omega
  ·go_wp2_with fail
   go_ret
   have e:k=fields.length:=by omega
   exact⟨aA4 (by rw[←e,HP.out]),hbw⟩
def aB6(p:Pt):Bool:=decide (0<p.types.length)&&isT (tth p.types 0).name [113,117,101,114,121]&&(tth p.types 0).key.toList.isEmpty
set_option maxHeartbeats 800000 in
theorem aNV(p:Pt)(w:World)(B:Nat)(v:Value)(hP:PRep w (·<B) p v)(hB:B≤w.heap.size):
  Calls Tryz.prog 95 #[v] w fun e w'=>e=.returned (.bool (aB6 p))∧Below w.heap.size w w':=by
 obtain⟨pname,types⟩:=p
 obtain⟨ta,tc,rfl,hK,-,-⟩:=hP
 simp only at hK
 have h3:=hK.1
 by_cases h0:0<types.length
 ·have d1:(0:Int)<(types.length:Int):=by omega
  obtain⟨b,off,fa,fc,rfl,-,hcs⟩:=hK.at hB 0 h0
  have q:=fun o=>hcs (w.alloc o) (aA2 w o)
  have q0:∀o,(w.alloc o).cell? ⟨b,off,none⟩=some (.string (tth types 0).name):=fun o=>by simpa using(q o).1
  have q1:∀o,(w.alloc o).cell? ⟨b,off+1,none⟩=some (.string (tth types 0).key):=fun o=>by simpa using(q o).2.1
  clear q hcs hK
  have HR:Hid (aB6 ⟨pname,types⟩=((tth types 0).name.toList==[113,117,101,114,121]&&(tth types 0).key.toList.isEmpty)):=by show _=_;simp[aB6,isT,h0]
  cases x1:((tth types 0).name.toList==[113,117,101,114,121])
  ·go_enter Tryz.func95,Tryz.ntmps95
   go_wp2_with fail
   go_ret
   exact⟨aA4 (by rw[HR.out,x1];rfl),aA2 _ _⟩
  ·go_enter Tryz.func95,Tryz.ntmps95
   go_wp2_with fail
   go_ret
   exact⟨aA4 (by rw[HR.out,x1];simp),aA2 _ _⟩
 ·have d1:decide ((0:Int)<(types.length:Int))=false:=decide_eq_false (by omega)
  have d2:decide (0<types.length)=false:=decide_eq_false (by omega)
  have HR:Hid (aB6 ⟨pname,types⟩=false):=by show _=_;simp only[aB6,d2,Bool.false_and]
  clear h0
  go_enter Tryz.func95,Tryz.ntmps95
  go_wp2_with fail
  go_ret
  exact⟨aA4 HR.out.symm,aA2 _ _⟩
end Go.Proofs.YtcebpkeiaiiphaaGreatDoor
