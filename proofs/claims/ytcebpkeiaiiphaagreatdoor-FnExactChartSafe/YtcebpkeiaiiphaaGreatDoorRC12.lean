import Derived.Test.YtcebpkeiaiiphaaGreatDoorRC11
set_option linter.unusedSimpArgs false
set_option linter.unusedVariables false
namespace Go.Proofs.YtcebpkeiaiiphaaGreatDoor
open Go.RowKit
def aAO(t:T):Bool:=aBB t.name&&(t.key.toList.isEmpty||aBB t.key)&&decide (0<t.fields.length)&&decide (t.fields.length<=8)&&aAN t.fields t.fields.length
set_option maxHeartbeats 1600000 in
theorem aHK(t:T)(w:World)(B:Nat)(v:Value)(hR:TRep w (·<B) t v)(hB:B<=w.heap.size):
  Calls Tryz.prog 131 #[v] w fun e w'=>e=.returned (.bool (aAO t))∧Below w.heap.size w w':=by
 obtain⟨name,key,fields⟩:=t;obtain⟨fa,fc,rfl,hK,hnc,hn,ho⟩:=hR;simp only at hK hnc hn ho;have h3:=hK.1;have hN1:=fun w=>aDN name w hn;have hN2:=fun w=>aDN key w ho;have HT:Hid (aAO ⟨name,key,fields⟩=(aBB name&&(key.toList.isEmpty||aBB key)&&decide (0<fields.length)&&decide (fields.length<=8)&&aAN fields fields.length)):=rfl;cases x1:aBB name
 ·rw[x1] at hN1;go_enter Tryz.func131,Tryz.ntmps131
  go_wp2_with (go_at_call_of 94 (Value.string name);refine(hN1 _).mono ?_;rintro e w' ⟨rfl,rfl⟩)
  go_ret
  exact⟨aA4 (by rw[HT.out,x1];rfl),aA2 _ _⟩
 rw[x1] at hN1;have key2:∀b1:Bool,key.toList.isEmpty=b1->(b1=false->aBB key=true)->Calls Tryz.prog 131 #[.agg #[.string name,.string key,.slice fa fields.length fc]] w fun e w'=>e=.returned (.bool (aAO ⟨name,key,fields⟩))∧Below w.heap.size w w':=by
  intro b1 hb1 hb2;have HE:Hid (aAO ⟨name,key,fields⟩=(decide (0<fields.length)&&decide (fields.length<=8)&&aAN fields fields.length)):=by
   show _=_;rw[HT.out,x1,hb1];cases b1
   ·rw[hb2 rfl];rfl
   ·rfl
  have key3:∀(hlen:0<fields.length∧fields.length<=8∨¬(0<fields.length∧fields.length<=8)),Calls Tryz.prog 131 #[.agg #[.string name,.string key,.slice fa fields.length fc]] w fun e w'=>e=.returned (.bool (aAO ⟨name,key,fields⟩))∧Below w.heap.size w w':=by
   intro hlen;rcases hlen with hlen| hlen
   ·have d1:((fields.length:Int)==0)=false:=by simp;intro e;simp[e] at hlen
    have d2:decide ((8:Int)<(fields.length:Int))=false:=decide_eq_false (by omega)
    have d3:decide (8<fields.length)=false:=decide_eq_false (by omega)
    have HE2:Hid (aAO ⟨name,key,fields⟩=aAN fields fields.length):=by
     show _=_;rw[HE.out,decide_eq_true hlen.1,decide_eq_true hlen.2];rfl
    cases b1;all_goals
     first| (have hb3:=hb2 rfl;rw[hb3] at hN2;clear hb3)| skip
     clear hb2;go_enter Tryz.func131,Tryz.ntmps131
     go_wp2_with (first| (go_at_call_of 94 (Value.string name);refine(hN1 _).mono ?_;rintro e w' ⟨rfl,rfl⟩)| (go_at_call_of 94 (Value.string key);refine(hN2 _).mono ?_;rintro e w' ⟨rfl,rfl⟩))
     go_loopw [33] (fun i wr=>∃k:Nat,k<=fields.length∧i=.int .i64 k∧Below w.heap.size w wr∧aAN fields k=true) (fun i _=>fields.length- (intOf i).toNat)
     case atStart=>exact⟨0,Nat.zero_le _,rfl,aA2 _ _,rfl⟩
     case round=>
      obtain⟨k,hk,rfl,hbw,hp⟩:=hrel;have HP:Hid (aAN fields k=true):=hp;clear hp;have hz:=hbw.size;by_cases hlt:k<fields.length
      ·obtain⟨b,off,na,nc,rfl,hfr,hcs⟩:=hK.at hB k hlt;obtain⟨c0,c1,c2,c3,c4,c5,c6,c7⟩:=hcs wr hbw;have hFN:=fun o=>aH5 (fth fields k) (wr.alloc o) B _ (hfr.under ((hbw.alloc hz o).mono hB)) (by simp;omega)
       clear hcs;cases x3:aBS (fth fields k)
       ·rw[x3] at hFN;have hres:Hid (aAN fields fields.length=false):=aBM (k:=k) hlt x3;go_wp2_with (go_at_call 159;refine(hFN _).mono ?_;rintro e w1 ⟨rfl,hb1'⟩)
        go_ret
        exact⟨aA4 (by rw[HE2.out,hres.out]),(hbw.alloc hz _).trans (hb1'.mono (by simp;omega))⟩
       ·rw[x3] at hFN;go_wp2_with (go_at_call 159;refine(hFN _).mono ?_;rintro e w1 ⟨rfl,hb1'⟩)
        go_roundw
        case rel=>exact⟨k+1,by omega,by go_num,(hbw.alloc hz _).trans (hb1'.mono (by simp;omega)),by rw[aE6,HP.out,x3];rfl⟩
        case measure=>simp[intOf];omega
      ·go_wp2_with fail
       go_ret
       have e:k=fields.length:=by omega
       exact⟨aA4 (by rw[HE2.out,<-e,HP.out]),hbw⟩
   ·have HE2:Hid (aAO ⟨name,key,fields⟩=false):=by
     show _=_;rw[HE.out];by_cases h0:0<fields.length
     ·have:¬fields.length<=8:=fun h=>hlen ⟨h0,h⟩;simp[this]
     ·simp[h0]
    have dd:((fields.length:Int)==0)=true∨((fields.length:Int)==0)=false∧decide ((8:Int)<(fields.length:Int))=true:=by
     by_cases h0:fields.length=0
     ·left;simp;exact List.eq_nil_of_length_eq_zero h0
     ·right;refine⟨by simp;intro e;simp[e] at h0,decide_eq_true ?_⟩
      have:¬fields.length<=8:=fun h=>hlen ⟨by omega,h⟩
      omega
    clear hlen;rcases dd with d1| ⟨d1,d2⟩
    all_goals
     cases b1;all_goals
      first| (have hb3:=hb2 rfl;rw[hb3] at hN2;clear hb3)| skip
      clear hb2;go_enter Tryz.func131,Tryz.ntmps131
      go_wp2_with (first| (go_at_call_of 94 (Value.string name);refine(hN1 _).mono ?_;rintro e w' ⟨rfl,rfl⟩)| (go_at_call_of 94 (Value.string key);refine(hN2 _).mono ?_;rintro e w' ⟨rfl,rfl⟩))
      go_ret
      exact⟨aA4 HE2.out.symm,aA2 _ _⟩
  exact key3 (Classical.em _)
 cases x2:key.toList.isEmpty
 ·cases x3:aBB key
  ·rw[x3] at hN2;go_enter Tryz.func131,Tryz.ntmps131
   go_wp2_with (first| (go_at_call_of 94 (Value.string name);refine(hN1 _).mono ?_;rintro e w' ⟨rfl,rfl⟩)| (go_at_call_of 94 (Value.string key);refine(hN2 _).mono ?_;rintro e w' ⟨rfl,rfl⟩))
   go_ret
   exact⟨aA4 (by rw[HT.out,x2,x3];simp),aA2 _ _⟩
  ·exact key2 false x2 fun _=>x3
 ·exact key2 true x2 fun h=>by cases h
theorem aDA.at{w:World}{B:Nat}{ts:List T}{ta:Option Addr}(h:aDA w (·<B) ts ta)(hB:B<=w.heap.size)(k:Nat)(hk:k<ts.length):∃(b off:Nat) (fa:Option Addr) (fc:Nat),ta=some ⟨b,off,none⟩∧
  TRep w (·<B) (tth ts k) (.agg #[.string (tth ts k).name,.string (tth ts k).key,.slice fa (tth ts k).fields.length fc])∧
  ∀W,Below w.heap.size w W->W.cell? ⟨b,off+k*3,none⟩=some (.string (tth ts k).name)∧W.cell? ⟨b,off+k*3+1,none⟩=some (.string (tth ts k).key)∧W.cell? ⟨b,off+k*3+2,none⟩=some (.slice fa (tth ts k).fields.length fc):=by
 obtain⟨-,C,hA,hr⟩:=h;obtain⟨b,off,rfl,hbB,hc⟩:=hA (by omega)
 have hkt:=hr k hk;obtain⟨fa,fc,e0,e1,e2,-⟩:=(hr k hk).parts;rw[e0,e1,e2] at hkt;refine⟨b,off,fa,fc,rfl,hkt,fun W hb=>?_⟩;have hck:∀j,j<3->W.cell? ⟨b,off+k*3+j,none⟩=some (C k j):=fun j hj=>(hb.cell (p:=⟨b,off+k*3+j,none⟩) (by show b<_;omega)).trans (hc k hk j hj)
 have c0:W.cell? ⟨b,off+k*3,none⟩=some (C k 0):=hck 0 (by omega)
 rw[c0,hck 1 (by omega),hck 2 (by omega),e0,e1,e2]
 exact⟨rfl,rfl,rfl⟩
def aKF(p:Pt)(f:F):Bool:=decide (0<=aAR p f.of)||aAV f.of
def aBY(p:Pt)(fs:List F)(n:Nat):Bool:=(List.range n).all fun i=>aKF p (fth fs i)
theorem aEC(p:Pt)(fs:List F)(n:Nat):aBY p fs (n+1)=(aBY p fs n&&aKF p (fth fs n)):=by simp[aBY,List.range_succ]
set_option maxHeartbeats 1600000 in
theorem aIX(p:Pt)(t:T)(w:World)(B:Nat)(v u:Value)(hP:PRep w (·<B) p v)(hR:TRep w (·<B) t u)(hB:B<=w.heap.size):
  Calls Tryz.prog 133 #[v,u] w fun e w'=>e=.returned (.bool (aBY p t.fields t.fields.length))∧Below w.heap.size w w':=by
 have hP':=hP;obtain⟨pname,types⟩:=p;obtain⟨ta,tc,rfl,-,-,-⟩:=hP;obtain⟨name,key,fields⟩:=t;obtain⟨fa,fc,rfl,hK,hnc,hn,ho⟩:=hR;simp only at hK hnc hn ho hP' ⊢;have h3:=hK.1;go_enter Tryz.func133,Tryz.ntmps133
 go_wp2_with fail
 go_loopw [12] (fun i wr=>∃k:Nat,k<=fields.length∧i=.int .i64 k∧Below (w.heap.size+1) (w.alloc (.cells #[.string pname,.slice ta types.length tc] 46)) wr∧w.heap.size<wr.heap.size∧aBY ⟨pname,types⟩ fields k=true) (fun i _=>fields.length- (intOf i).toNat)
 case atStart=>exact⟨0,Nat.zero_le _,rfl,(Below.refl _ _).alloc (by simp) _,by simp;omega,rfl⟩
 case round=>
  obtain⟨k,hk,rfl,hbel,hz,hp⟩:=hrel;have HP:Hid (aBY ⟨pname,types⟩ fields k=true):=hp;clear hp;have hbw:Below w.heap.size w wr:=(aA2 w _).trans (hbel.mono (by omega))
  have hcell:∀W,Below (w.heap.size+1) (w.alloc (.cells #[.string pname,.slice ta types.length tc] 46)) W->W.cell? ⟨w.heap.size,0,none⟩=some (.string pname)∧W.cell? ⟨w.heap.size,1,none⟩=some (.slice ta types.length tc):=fun W h=>
   ⟨(h.cell (p:=⟨w.heap.size,0,none⟩) (by show w.heap.size<_;omega)).trans (aBC _ _ 0 (by simp)),(h.cell (p:=⟨w.heap.size,1,none⟩) (by show w.heap.size<_;omega)).trans (aBC _ _ 1 (by simp))⟩
  by_cases hlt:k<fields.length
  ·obtain⟨b,off,na,nc,rfl,hfr,hcs⟩:=hK.at hB k hlt;obtain⟨c0,c1,c2,c3,c4,c5,c6,c7⟩:=hcs wr hbw;have q:=fun o=>hcell (wr.alloc o) (hbel.alloc (by omega) o)
   have q0:=fun o=>(q o).1;have q1:=fun o=>(q o).2;have hft:=fun o=>aFF ⟨pname,types⟩ (wr.alloc o) B _ (fth fields k).of (hP'.under ((hbw.alloc (by omega) o).mono hB)) (by simp;omega)
   have hL:=fun w=>aFR (fth fields k).of w;have hB5:=fun w1 o (hb1:Below (wr.alloc o).heap.size (wr.alloc o) w1)=>(hb1.cell (p:=⟨wr.heap.size,1,none⟩) (by show wr.heap.size<_;simp))
   clear hcs q;have HK:Hid (aKF ⟨pname,types⟩ (fth fields k)=(decide (0<=aAR ⟨pname,types⟩ (fth fields k).of)||aAV (fth fields k).of)):=rfl;cases x1:decide (0<=aAR ⟨pname,types⟩ (fth fields k).of)
   ·rw[x1] at hft;cases x2:aAV (fth fields k).of
    ·rw[x2] at hL;have hres:Hid (aBY ⟨pname,types⟩ fields fields.length=false):=aBM (k:=k) hlt (by rw[HK.out,x1,x2];rfl)
     go_wp2_with (first
      |(
       go_at_call 55
       refine(hft _).mono ?_;rintro e w1 ⟨nm,ky,fa2,fl2,fc2,rfl,hb1,-⟩;have z1:=hb1.size;simp at z1;have g1:∀o,(w1.alloc o).cell? ⟨wr.heap.size,1,none⟩=some (.string (fth fields k).of):=fun o=>((aA2 w1 o).cell (p:=⟨wr.heap.size,1,none⟩) (by show wr.heap.size<_;omega)).trans ((hB5 w1 _ hb1).trans (aBC _ _ 1 (by simp))))
      |(go_at_call 59;refine(hL _).mono ?_;rintro e w' ⟨rfl,rfl⟩))
     go_ret
     exact⟨aA4 hres.out.symm,((hbw.alloc (by omega) _).trans (hb1.mono (by simp;omega))).alloc (by omega) _⟩
    ·rw[x2] at hL;go_wp2_with (first
      |(
       go_at_call 55
       refine(hft _).mono ?_;rintro e w1 ⟨nm,ky,fa2,fl2,fc2,rfl,hb1,-⟩;have z1:=hb1.size;simp at z1;have g1:∀o,(w1.alloc o).cell? ⟨wr.heap.size,1,none⟩=some (.string (fth fields k).of):=fun o=>((aA2 w1 o).cell (p:=⟨wr.heap.size,1,none⟩) (by show wr.heap.size<_;omega)).trans ((hB5 w1 _ hb1).trans (aBC _ _ 1 (by simp))))
      |(go_at_call 59;refine(hL _).mono ?_;rintro e w' ⟨rfl,rfl⟩))
     go_roundw
     case rel=>exact⟨k+1,by omega,by go_num,((hbel.alloc (by omega) _).trans (hb1.mono (by simp;omega))).alloc (by omega) _,by simp;omega,by rw[aEC,HP.out,HK.out,x1,x2];rfl⟩
     case measure=>simp[intOf];omega
   ·rw[x1] at hft;go_wp2_with (go_at_call 55;refine(hft _).mono ?_;rintro e w1 ⟨nm,ky,fa2,fl2,fc2,rfl,hb1,-⟩)
    have z1:=hb1.size;simp at z1;go_roundw
    case rel=>exact⟨k+1,by omega,by go_num,((hbel.alloc (by omega) _).trans (hb1.mono (by simp;omega))).alloc (by omega) _,by simp;omega,by rw[aEC,HP.out,HK.out,x1];rfl⟩
    case measure=>simp[intOf];omega
  ·go_wp2_with fail
   go_ret
   have e:k=fields.length:=by omega
   exact⟨aA4 (by rw[<-e,HP.out]),hbw⟩
def aB5(p:Pt):Bool:=decide (0<p.types.length)&&isT (tth p.types 0).name [113,117,101,114,121]&&(tth p.types 0).key.toList.isEmpty
set_option maxHeartbeats 800000 in
theorem aNZ(p:Pt)(w:World)(B:Nat)(v:Value)(hP:PRep w (·<B) p v)(hB:B<=w.heap.size):
  Calls Tryz.prog 95 #[v] w fun e w'=>e=.returned (.bool (aB5 p))∧Below w.heap.size w w':=by
 obtain⟨pname,types⟩:=p;obtain⟨ta,tc,rfl,hK,-,-⟩:=hP;simp only at hK;have h3:=hK.1;by_cases h0:0<types.length
 ·have d1:(0:Int)<(types.length:Int):=by omega
  obtain⟨b,off,fa,fc,rfl,-,hcs⟩:=hK.at hB 0 h0;have q:=fun o=>hcs (w.alloc o) (aA2 w o);have q0:∀o,(w.alloc o).cell? ⟨b,off,none⟩=some (.string (tth types 0).name):=fun o=>by simpa using(q o).1
  have q1:∀o,(w.alloc o).cell? ⟨b,off+1,none⟩=some (.string (tth types 0).key):=fun o=>by simpa using(q o).2.1
  clear q hcs hK;have HR:Hid (aB5 ⟨pname,types⟩=((tth types 0).name.toList==[113,117,101,114,121]&&(tth types 0).key.toList.isEmpty)):=by show _=_;simp[aB5,isT,h0]
  cases x1:((tth types 0).name.toList==[113,117,101,114,121])
  ·go_enter Tryz.func95,Tryz.ntmps95
   go_wp2_with fail
   go_ret
   exact⟨aA4 (by rw[HR.out,x1];rfl),aA2 _ _⟩
  ·go_enter Tryz.func95,Tryz.ntmps95
   go_wp2_with fail
   go_ret
   exact⟨aA4 (by rw[HR.out,x1];simp),aA2 _ _⟩
 ·have d1:decide ((0:Int)<(types.length:Int))=false:=decide_eq_false (by omega)
  have d2:decide (0<types.length)=false:=decide_eq_false (by omega)
  have HR:Hid (aB5 ⟨pname,types⟩=false):=by show _=_;simp only[aB5,d2,Bool.false_and]
  clear h0;go_enter Tryz.func95,Tryz.ntmps95
  go_wp2_with fail
  go_ret
  exact⟨aA4 HR.out.symm,aA2 _ _⟩
theorem aF8(FW:World)(tmps:Array Value)(N:Nat)(ok:Bool)(v0 v1 v2 v3 v4 v5 v6 v7:Value)(h6:tmps.getD 6 undef=.pointer (some ⟨N,0,none⟩))(h7:tmps.getD 7 undef=.bool ok)
  (d0:FW.cell? ⟨N,0,none⟩=some v0) (d1:FW.cell? ⟨N,1,none⟩=some v1) (d2:FW.cell? ⟨N,2,none⟩=some v2) (d3:FW.cell? ⟨N,3,none⟩=some v3) (d4:FW.cell? ⟨N,4,none⟩=some v4) (d5:FW.cell? ⟨N,5,none⟩=some v5) (d6:FW.cell? ⟨N,6,none⟩=some v6) (d7:FW.cell? ⟨N,7,none⟩=some v7):
  (results Tryz.f38 tmps).run Tryz.prog FW=.ok (.tuple #[.agg #[v0,v1,v2,v3,v4,v5,v6,v7],.bool ok]) FW:=by
 simp only[Array.getD_eq_getD_getElem?] at h6 h7;simp[results,Tryz.results38,go_sem,h6,h7,d0,d1,d2,d3,d4,d5,d6,d7]
def getF(p:Pt)(s f:ByteArray):F:=if 0<=aAR p s then aAT (aA5 p s) f else F.zero
def getB(p:Pt)(s f:ByteArray):Bool:=decide (0<=aAR p s)&&decide (0<=aAB (aA5 p s) f)
set_option maxRecDepth 20000 in
set_option maxHeartbeats 3200000 in
theorem aMM(p:Pt)(s f:ByteArray)(w:World)(B:Nat)(v:Value)(hP:PRep w (·<B) p v)(hB:B<=w.heap.size):
  Calls Tryz.prog 38 #[v,.string s,.string f] w fun e w'=>∃(nm of:ByteArray) (l m fr hi sh:Bool) (na:Option Addr) (nc:Nat),
   e=.returned (.tuple #[.agg #[.string nm,.string of,.bool l,.bool m,.bool fr,.bool hi,.bool sh,.slice na (getF p s f).needs.length nc],.bool (getB p s f)])∧Below w.heap.size w w'∧
   FRep w' (·<B) (getF p s f) (.agg #[.string nm,.string of,.bool l,.bool m,.bool fr,.bool hi,.bool sh,.slice na (getF p s f).needs.length nc]):=by
 have hP':=hP;obtain⟨pname,types⟩:=p;obtain⟨ta,tc,rfl,hK,hnc,hpn⟩:=hP;simp only at hK hnc hpn hP';obtain⟨X,hXe⟩:∃X,X=((w.alloc (.cells #[.string pname,.slice ta types.length tc] 46)).alloc (.cells #[.string ByteArray.empty,.string ByteArray.empty,.bool false,.bool false,.bool false,.bool false,.bool false,.slice none 0 0] 80)):=⟨_,rfl⟩;have PC:∀W,Below (w.heap.size+1+1) X W->W.cell? ⟨w.heap.size,0,none⟩=some (.string pname)∧W.cell? ⟨w.heap.size,1,none⟩=some (.slice ta types.length tc)∧W.heap[w.heap.size+1]?=some (.cells #[.string ByteArray.empty,.string ByteArray.empty,.bool false,.bool false,.bool false,.bool false,.bool false,.slice none 0 0] 80 (0,0))∧Below w.heap.size w W∧w.heap.size+1<W.heap.size:=fun W h=>by
  subst hXe;have hz:=h.size;simp at hz;have a:∀i (hi:i<2),W.cell? ⟨w.heap.size,i,none⟩=some #[Value.string pname,.slice ta types.length tc][i]:=fun i hi=>(h.cell (p:=⟨w.heap.size,i,none⟩) (by show w.heap.size<_;omega)).trans (((aA2 _ _).cell (p:=⟨w.heap.size,i,none⟩) (by show w.heap.size<_;simp)).trans (aBC _ _ i (by simpa using hi)))
  have hb:W.heap[w.heap.size+1]?=some (.cells #[.string ByteArray.empty,.string ByteArray.empty,.bool false,.bool false,.bool false,.bool false,.bool false,.slice none 0 0] 80 (0,0)):=(h.block (w.heap.size+1) (by omega)).trans (by have:=heap_alloc_new (w.alloc (.cells #[.string pname,.slice ta types.length tc] 46)) (.cells #[.string ByteArray.empty,.string ByteArray.empty,.bool false,.bool false,.bool false,.bool false,.bool false,.slice none 0 0] 80);simpa using this)
  exact⟨a 0 (by omega),a 1 (by omega),hb,(aA6 w _ _).trans (h.mono (by omega)),by omega⟩
 have hT0:Below (w.heap.size+1+1) X ((w.alloc (.cells #[.string pname,.slice ta types.length tc] 46)).alloc (.cells #[.string ByteArray.empty,.string ByteArray.empty,.bool false,.bool false,.bool false,.bool false,.bool false,.slice none 0 0] 80)):=by rw[hXe];exact Below.refl _ _
 clear hXe;have hBW:=fun W (h:Below (w.heap.size+1+1) X W)=>show B<=W.heap.size by have:=(PC W h).2.2.2.2;omega
 have hI:=fun W h=>aDO ⟨pname,types⟩ W B _ s (hP'.under ((PC W h).2.2.2.1.mono hB)) (hBW W h);have HTX:Hid (aAR ⟨pname,types⟩ s=aA9 (fun i=>(tth types i).name.toList==s.toList) types.length):=rfl;simp only at hI;rw[<-HTX.out] at hI;have I1:=hI _ hT0;rcases aA8 (fun i=>(tth types i).name.toList==s.toList) types.length with⟨hx,-⟩| ⟨g,hx,hg,-,-⟩
 ·rw[<-HTX.out] at hx;have HA:Hid (getF ⟨pname,types⟩ s f=F.zero∧getB ⟨pname,types⟩ s f=false):=⟨by rw[getF,if_neg (by rw[hx];omega)],by rw[getB,hx];simp⟩
  rw[hx] at I1;clear hx;go_enter Tryz.func38,Tryz.ntmps38
  go_wp2_with (first
   |(
    go_at_call 62
    refine I1.mono ?_;rintro e w1 ⟨rfl,hb1⟩;have hT1:=hT0.trans (hb1.mono (by simp))
    obtain⟨q0,q1,hbx,hw1,hz1⟩:=PC w1 hT1;obtain⟨a0,b0⟩:=aA1 hbx 0 (by simp)
    obtain⟨a1,b1⟩:=aA1 hbx 1 (by simp)
    obtain⟨a2,b2⟩:=aA1 hbx 2 (by simp)
    obtain⟨a3,b3⟩:=aA1 hbx 3 (by simp)
    obtain⟨a4,b4⟩:=aA1 hbx 4 (by simp)
    obtain⟨a5,b5⟩:=aA1 hbx 5 (by simp)
    obtain⟨a6,b6⟩:=aA1 hbx 6 (by simp)
    obtain⟨a7,b7⟩:=aA1 hbx 7 (by simp)))
  obtain⟨d0,d1,d2,d3,d4,d5,d6,d7⟩:=aBQ hbx rfl (.string ⟨#[]⟩) (.string ⟨#[]⟩) (.bool false) (.bool false) (.bool false) (.bool false) (.bool false) (.slice none 0 0) _ rfl;refine bodyPost_ret (aF8 _ _ (w.heap.size+1) false (.string ⟨#[]⟩) (.string ⟨#[]⟩) (.bool false) (.bool false) (.bool false) (.bool false) (.bool false) (.slice none 0 0) rfl rfl d0 d1 d2 d3 d4 d5 d6 d7) rfl ?_;rw[HA.out.1,HA.out.2];exact⟨_,_,_,_,_,_,_,_,_,rfl,aAH hw1 (Nat.le_succ _) _ _ _ _ _ _ _ _,FRep.zero _ _⟩
 rw[<-HTX.out] at hx;have hto:aA5 ⟨pname,types⟩ s=tth types g:=by rw[aA5,if_pos (by rw[hx];omega),hx];rfl
 have HA0:Hid (getF ⟨pname,types⟩ s f=aAT (tth types g) f∧getB ⟨pname,types⟩ s f=decide (0<=aAB (tth types g) f)):=⟨by rw[getF,if_pos (by rw[hx];omega),hto],by rw[getB,hx,hto];simp⟩
 rw[hx] at I1;clear hx hto;obtain⟨b,off,fa,fc,rfl,htr,hcs⟩:=hK.at hB g hg;obtain⟨fa',fc',e0,e1,e2,hff,hffc,hs1,hs2⟩:=htr.parts;simp only[Value.slice.injEq] at e2;obtain⟨rfl,-,rfl⟩:=e2;clear e0 e1;have hgi:(g:Int)<(types.length:Int):=by omega
 have hg0:¬(g:Int)<0:=by omega
 have hL:=fun W h=>aD3 (tth types g) W B _ f (htr.under ((PC W h).2.2.2.1.mono hB)) (hBW W h);have HFX:Hid (aAB (tth types g) f=aA9 (fun i=>(fth (tth types g).fields i).name.toList==f.toList) (tth types g).fields.length):=rfl;rcases aA8 (fun i=>(fth (tth types g).fields i).name.toList==f.toList) (tth types g).fields.length with⟨hx,-⟩| ⟨h,hx,hh,-,-⟩
 ·rw[hx] at hL;have HA:Hid (getF ⟨pname,types⟩ s f=F.zero∧getB ⟨pname,types⟩ s f=false):=⟨by rw[HA0.out.1,aAT,if_neg (by rw[HFX.out,hx];omega)],by rw[HA0.out.2,HFX.out,hx];rfl⟩
  clear hx;go_enter Tryz.func38,Tryz.ntmps38
  go_wp2_with (first
   |(
    go_at_call 62
    refine I1.mono ?_;rintro e w1 ⟨rfl,hb1⟩;have hT1:=hT0.trans (hb1.mono (by simp))
    obtain⟨q0,q1,-,hw1,hz1⟩:=PC w1 hT1;obtain⟨c0,c1,c2⟩:=hcs w1 hw1)
   |(
    go_at_call 63
    refine(hL w1 hT1).mono ?_;rintro e w3 ⟨rfl,hb3⟩;have hT3:=hT1.trans (hb3.mono (by omega))
    obtain⟨y0,y1,hbx,hw3,hz3⟩:=PC w3 hT3;obtain⟨a0,b0⟩:=aA1 hbx 0 (by simp)
    obtain⟨a1,b1⟩:=aA1 hbx 1 (by simp)
    obtain⟨a2,b2⟩:=aA1 hbx 2 (by simp)
    obtain⟨a3,b3⟩:=aA1 hbx 3 (by simp)
    obtain⟨a4,b4⟩:=aA1 hbx 4 (by simp)
    obtain⟨a5,b5⟩:=aA1 hbx 5 (by simp)
    obtain⟨a6,b6⟩:=aA1 hbx 6 (by simp)
    obtain⟨a7,b7⟩:=aA1 hbx 7 (by simp)))
  obtain⟨d0,d1,d2,d3,d4,d5,d6,d7⟩:=aBQ hbx rfl (.string ⟨#[]⟩) (.string ⟨#[]⟩) (.bool false) (.bool false) (.bool false) (.bool false) (.bool false) (.slice none 0 0) _ rfl;refine bodyPost_ret (aF8 _ _ (w.heap.size+1) false (.string ⟨#[]⟩) (.string ⟨#[]⟩) (.bool false) (.bool false) (.bool false) (.bool false) (.bool false) (.slice none 0 0) rfl rfl d0 d1 d2 d3 d4 d5 d6 d7) rfl ?_;rw[HA.out.1,HA.out.2];exact⟨_,_,_,_,_,_,_,_,_,rfl,aAH hw3 (Nat.le_succ _) _ _ _ _ _ _ _ _,FRep.zero _ _⟩
 rw[hx] at hL;have HA:Hid (getF ⟨pname,types⟩ s f=fth (tth types g).fields h∧getB ⟨pname,types⟩ s f=true):=⟨by rw[HA0.out.1,aAT,HFX.out,hx,if_pos (by omega)];rfl,by rw[HA0.out.2,HFX.out,hx];simp⟩
 clear hx HA0 HFX;obtain⟨fb,foff,na,nc,rfl,hfr,hcf⟩:=hff.at hB h hh;have hhi:(h:Int)<((tth types g).fields.length:Int):=by omega
 have hh0:¬(h:Int)<0:=by omega
 generalize fth (tth types g).fields h=ff at*;go_enter Tryz.func38,Tryz.ntmps38
 go_wp2_with (first
  |(
   go_at_call 62
   refine I1.mono ?_;rintro e w1 ⟨rfl,hb1⟩;have hT1:=hT0.trans (hb1.mono (by simp))
   obtain⟨q0,q1,-,hw1,hz1⟩:=PC w1 hT1;obtain⟨c0,c1,c2⟩:=hcs w1 hw1)
  |(
   go_at_call 63
   refine(hL w1 hT1).mono ?_;rintro e w3 ⟨rfl,hb3⟩;have hT3:=hT1.trans (hb3.mono (by omega))
   obtain⟨y0,y1,hbx,hw3,hz3⟩:=PC w3 hT3;obtain⟨c30,c31,c32⟩:=hcs w3 hw3;obtain⟨g0,g1,g2,g3,g4,g5,g6,g7⟩:=hcf w3 hw3;obtain⟨a0,b0⟩:=aA1 hbx 0 (by simp)
   obtain⟨a1,b1⟩:=aA1 hbx 1 (by simp)
   obtain⟨a2,b2⟩:=aA1 hbx 2 (by simp)
   obtain⟨a3,b3⟩:=aA1 hbx 3 (by simp)
   obtain⟨a4,b4⟩:=aA1 hbx 4 (by simp)
   obtain⟨a5,b5⟩:=aA1 hbx 5 (by simp)
   obtain⟨a6,b6⟩:=aA1 hbx 6 (by simp)
   obtain⟨a7,b7⟩:=aA1 hbx 7 (by simp)))
 obtain⟨d0,d1,d2,d3,d4,d5,d6,d7⟩:=aBQ hbx rfl (.string ff.name) (.string ff.of) (.bool ff.list) (.bool ff.must) (.bool ff.far) (.bool ff.hidden) (.bool ff.shared) (.slice na ff.needs.length nc) _ rfl;refine bodyPost_ret (aF8 _ _ (w.heap.size+1) true (.string ff.name) (.string ff.of) (.bool ff.list) (.bool ff.must) (.bool ff.far) (.bool ff.hidden) (.bool ff.shared) (.slice na ff.needs.length nc) rfl rfl d0 d1 d2 d3 d4 d5 d6 d7) rfl ?_;rw[HA.out.1,HA.out.2];exact⟨_,_,_,_,_,_,_,_,_,rfl,aAH hw3 (Nat.le_succ _) _ _ _ _ _ _ _ _,hfr.mono fun k hk=>(aCZ (by omega) _ _ _ _ _ _ _ _ _).trans (hw3.block k (by omega))⟩
end Go.Proofs.YtcebpkeiaiiphaaGreatDoor
