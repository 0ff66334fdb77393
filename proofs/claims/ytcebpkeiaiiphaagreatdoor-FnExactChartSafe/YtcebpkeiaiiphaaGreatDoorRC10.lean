import Derived.Test.YtcebpkeiaiiphaaGreatDoorRC9
set_option linter.unusedSimpArgs false
set_option linter.unusedVariables false
namespace Go.Proofs.YtcebpkeiaiiphaaGreatDoor
open Go.RowKit
def aLY(ns:List ByteArray)(i:Nat):Bool:=i==0||Op.bytesLess (nth ns (i- 1)).toList (nth ns i).toList
def aHS(ns:List ByteArray)(n:Nat):Bool:=(List.range n).all fun i=>aLY ns i
theorem aKV(ns:List ByteArray)(n:Nat):aHS ns (n+1)=(aHS ns n&&aLY ns n):=by simp[aHS,List.range_succ]
theorem aBM{q:Nat->Bool}{n k:Nat}(hk:k<n)(h:q k=false):(List.range n).all q=false:=by
 cases e:(List.range n).all q
 ·rfl
 ·rw[List.all_eq_true] at e;have:=e k (by simpa using hk)
  rw[h] at this;cases this
def aER(t:T)(ns:List ByteArray)(i:Nat):Bool:=decide (0<=aAB t (nth ns i))&&aEA (aAT t (nth ns i))
def aCX(t:T)(ns:List ByteArray)(n:Nat):Bool:=(List.range n).all fun i=>aER t ns i
theorem aI4(t:T)(ns:List ByteArray)(n:Nat):aCX t ns (n+1)=(aCX t ns n&&aER t ns n):=by simp[aCX,List.range_succ]
theorem aI5(t:T)(f:F):∀n,aFI t f n=(aHS f.needs n&&aCX t f.needs n)
 |0=>rfl
 |n+1=>by
  rw[aGM,aKV,aI4,aI5 t f n];have:aDB t f n=(aLY f.needs n&&aER t f.needs n):=by
   by_cases h:0<=aAB t (nth f.needs n)
   ·simp only[aDB,aLY,aER,aAT,h,if_true,decide_true,Bool.true_and];rw[Bool.and_comm]
   ·simp[aDB,aLY,aER,h]
  rw[this];cases aHS f.needs n<;>cases aCX t f.needs n<;>cases aLY f.needs n<;>cases aER t f.needs n<;>rfl
set_option maxHeartbeats 400000 in
theorem aL0(ns:List ByteArray)(a:Option Addr)(c:Nat)(w:World)(P:Nat->Prop)(hS:Strs w P ns a)(hc:ns.length<=c):
  Calls Tryz.prog 163 #[.slice a ns.length c] w fun e w'=>e=.returned (.bool (aHS ns ns.length))∧Below w.heap.size w w':=by
 obtain⟨h1,h2,h3⟩:=hS;unfold maxLen at h3;by_cases hn0:ns.length<=1
 ·have hE:Hid (aHS ns ns.length=true):=by
   show _=_;have:ns.length=0∨ns.length=1:=by omega
   rcases this with e| e<;>rw[e]<;>rfl
  go_enter Tryz.func163,Tryz.ntmps163
  go_wp2_with fail
  go_loop [3] (fun i=>i=.int .i64 1) (fun _=>0)
  case atStart=>rfl
  case round=>
   subst hrel;go_wp2_with fail
   go_ret
   exact⟨aA4 hE.out.symm,Below.refl _ _⟩
 ·obtain⟨b,off,rfl,_,hcc⟩:=h1 (by intro e;simp[e] at hn0)
  clear h1 h2;go_enter Tryz.func163,Tryz.ntmps163
  go_wp2_with fail
  go_loopw [3] (fun i wr=>∃k m:Nat,1<=k∧k<=ns.length∧i=.int .i64 k∧wr=w.drewN m∧aHS ns k=true) (fun i _=>ns.length- (intOf i).toNat)
  case atStart=>exact⟨1,0,by omega,by omega,rfl,rfl,rfl⟩
  case round=>
   obtain⟨k,m,hk1,hk,rfl,rfl,hp⟩:=hrel;have HP:Hid (aHS ns k=true):=hp;clear hp;by_cases hlt:k<ns.length
   ·obtain⟨j,rfl⟩:∃j,k=j+1:=⟨k- 1,by omega⟩
    have hck:=hcc (j+1) hlt;have hcj:=hcc j (by omega)
    have hki:((j+1:Nat):Int)<(ns.length:Int):=by omega
    have hkj:(j:Int)<(ns.length:Int):=by omega
    have hsub:((j+1:Nat):Int)- 1=(j:Int):=by omega
    clear hcc;cases he:Op.bytesLess (nth ns j).toList (nth ns (j+1)).toList
    ·have hres:Hid (aHS ns ns.length=false):=aBM (k:=j+1) hlt (by simp[aLY,he])
     go_wp2_with fail
     go_quiet (fail)
     go_wp2_with fail
     go_ret
     exact⟨aA4 hres.out.symm,aAQ (aAQ (Below.refl _ _) _) _⟩
    ·go_wp2_with fail
     go_quiet (fail)
     go_wp2_with fail
     go_roundw
     case rel=>exact⟨j+1+1,_,by omega,by omega,by go_num,rfl,by rw[aKV,HP.out];simp[aLY,he]⟩
     case measure=>simp[intOf];omega
   ·go_wp2_with fail
    go_ret
    have e:k=ns.length:=by omega
    exact⟨aA4 (by rw[<-e,HP.out]),aAQ (Below.refl _ _) _⟩
theorem aIO{w:World}{P:Nat->Prop}{f:F}{nm of:ByteArray}{l m fr hi sh:Bool}{na:Option Addr}{nl nc:Nat}(h:FRep w P f (.agg #[.string nm,.string of,.bool l,.bool m,.bool fr,.bool hi,.bool sh,.slice na nl nc])):
  (isT of [105,110,116]&&(nl:Int)==0&&!l)=aEA f:=by
 obtain⟨-,rfl,rfl,rfl,rfl,rfl,rfl,rfl,-⟩:=h.vals;rw[aEA];have:((f.needs.length:Int)==0)=!decide (0<(f.needs.length:Int)):=by
  rw[Bool.eq_iff_iff];simp only[beq_iff_eq,Bool.not_eq_true',decide_eq_false_iff_not];omega
 rw[this];cases isT f.of [105,110,116]<;>cases decide (0<(f.needs.length:Int))<;>cases f.list<;>rfl
set_option maxHeartbeats 800000 in
theorem aSC(t:T)(ns:List ByteArray)(a:Option Addr)(c:Nat)(w:World)(B:Nat)(v:Value)(hR:TRep w (·<B) t v)(hS:Strs w (·<B) ns a)(hc:ns.length<=c)(hB:B<=w.heap.size):
  Calls Tryz.prog 164 #[v,.slice a ns.length c] w fun e w'=>e=.returned (.bool (aCX t ns ns.length))∧Below w.heap.size w w':=by
 have hR':=hR;obtain⟨name,key,fields⟩:=t;obtain⟨fa,fc,rfl,hK,hnc,hn,ho⟩:=hR;simp only at hK hnc hn ho;clear hK;obtain⟨h1,h2,h3⟩:=hS;unfold maxLen at h3;go_enter Tryz.func164,Tryz.ntmps164
 go_wp2_with fail
 go_loopw [11] (fun i wr=>∃k:Nat,k<=ns.length∧i=.int .i64 k∧Below (w.heap.size+1) (w.alloc (.cells #[.string name,.string key,.slice fa fields.length fc] 96)) wr∧aCX ⟨name,key,fields⟩ ns k=true) (fun i _=>ns.length- (intOf i).toNat)
 case atStart=>exact⟨0,Nat.zero_le _,rfl,Below.refl _ _,rfl⟩
 case round=>
  obtain⟨k,hk,rfl,hbel,hp⟩:=hrel;have HP:Hid (aCX ⟨name,key,fields⟩ ns k=true):=hp;clear hp;have hz:=hbel.size;simp at hz;have hbw:Below w.heap.size w wr:=(aA2 w _).trans (hbel.mono (by omega))
  have hcell:∀i (hi:i<3),wr.cell? ⟨w.heap.size,i,none⟩=some #[Value.string name,.string key,.slice fa fields.length fc][i]:=fun i hi=>(hbel.cell (p:=⟨w.heap.size,i,none⟩) (by show w.heap.size<_;omega)).trans (aBC _ _ i (by simpa using hi))
  have p0:wr.cell? ⟨w.heap.size,0,none⟩=some (.string name):=hcell 0 (by omega)
  have p1:wr.cell? ⟨w.heap.size,1,none⟩=some (.string key):=hcell 1 (by omega)
  have p2:wr.cell? ⟨w.heap.size,2,none⟩=some (.slice fa fields.length fc):=hcell 2 (by omega)
  clear hcell;by_cases hlt:k<ns.length
  ·obtain⟨d,doff,rfl,hdB,hcc⟩:=h1 (by intro e;simp[e] at hlt)
   have hck:wr.cell? ⟨d,doff+k,none⟩=some (.string (nth ns k)):=(hbw.cell (p:=⟨d,doff+k,none⟩) (by show d<_;omega)).trans (hcc k hlt)
   clear hcc h1 h2;have hff:=aCP ⟨name,key,fields⟩ wr B _ (nth ns k) (hR'.under (hbw.mono hB)) (by omega)
   cases hix:decide (0<=aAB ⟨name,key,fields⟩ (nth ns k))
   ·rw[hix] at hff;have hres:Hid (aCX ⟨name,key,fields⟩ ns ns.length=false):=aBM (k:=k) hlt (by simp only[aER,hix];rfl)
    go_wp2_with (go_at_call 98;refine hff.mono ?_;rintro e w1 ⟨nm,of,l,m,fr,hi,sh,na,nl,nc,rfl,hb1,hf1⟩)
    go_ret
    exact⟨aA4 hres.out.symm,(hbw.trans (hb1.mono (by omega))).alloc (by have:=hb1.size;omega) _⟩
   ·rw[hix] at hff;have hat:Hid (aER ⟨name,key,fields⟩ ns k=aEA (aAT ⟨name,key,fields⟩ (nth ns k))):=by show _=_;simp only[aER,hix];rfl
    cases hnd:aEA (aAT ⟨name,key,fields⟩ (nth ns k))
    ·have hres:Hid (aCX ⟨name,key,fields⟩ ns ns.length=false):=aBM (k:=k) hlt (by rw[hat.out,hnd])
     go_wp2_with (first
      |(
       go_at_call 98
       refine hff.mono ?_;rintro e w1 ⟨nm,of,l,m,fr,hi,sh,na,nl,nc,rfl,hb1,hf1⟩;have hv:(isT of [105,110,116]&&(nl:Int)==0&&!l)=aEA (aAT ⟨name,key,fields⟩ (nth ns k)):=aIO hf1;rw[hnd] at hv)
      |(
       go_at_call 139
       refine(aBN _ _ _ _ _ _ _ _ _ _ _).mono ?_;rintro e w2 ⟨rfl,hb2⟩)
      |(
       go_at_call 175
       have hcb:=aF5 nm of l m fr hi sh na nl nc w2;rw[hv] at hcb;refine hcb.mono ?_;rintro e w3 ⟨rfl,hb3⟩))
     have z1:=hb1.size;have z2:=hb2.size;simp at z2;go_ret
     exact⟨aA4 hres.out.symm,(((hbw.trans (hb1.mono (by omega))).alloc (by omega) _).trans (hb2.mono (by simp;omega))).trans (hb3.mono (by omega))⟩
    ·go_wp2_with (first
      |(
       go_at_call 98
       refine hff.mono ?_;rintro e w1 ⟨nm,of,l,m,fr,hi,sh,na,nl,nc,rfl,hb1,hf1⟩;have hv:(isT of [105,110,116]&&(nl:Int)==0&&!l)=aEA (aAT ⟨name,key,fields⟩ (nth ns k)):=aIO hf1;rw[hnd] at hv)
      |(
       go_at_call 139
       refine(aBN _ _ _ _ _ _ _ _ _ _ _).mono ?_;rintro e w2 ⟨rfl,hb2⟩)
      |(
       go_at_call 175
       have hcb:=aF5 nm of l m fr hi sh na nl nc w2;rw[hv] at hcb;refine hcb.mono ?_;rintro e w3 ⟨rfl,hb3⟩))
     have z1:=hb1.size;have z2:=hb2.size;simp at z2;go_roundw
     case rel=>exact⟨k+1,by omega,by go_num,(((hbel.trans (hb1.mono (by omega))).alloc (by omega) _).trans (hb2.mono (by simp;omega))).trans (hb3.mono (by omega)),by rw[aI4,HP.out,hat.out,hnd];rfl⟩
     case measure=>simp[intOf];omega
  ·go_wp2_with fail
   go_ret
   have e:k=ns.length:=by omega
   exact⟨aA4 (by rw[<-e,HP.out]),hbw⟩
def aDJ(t:T)(f:F):Bool:=aE7 t f&&!(f.far&&f.shared)
def aB4(t:T)(n:Nat):Bool:=(List.range n).all fun i=>aDJ t (fth t.fields i)
theorem aEZ(t:T)(n:Nat):aB4 t (n+1)=(aB4 t n&&aDJ t (fth t.fields n)):=by simp[aB4,List.range_succ]
set_option maxHeartbeats 1600000 in
theorem aKB(t:T)(w:World)(B:Nat)(v:Value)(hR:TRep w (·<B) t v)(hB:B<=w.heap.size):
  Calls Tryz.prog 135 #[v] w fun e w'=>e=.returned (.bool (aB4 t t.fields.length))∧Below w.heap.size w w':=by
 have hR':=hR;obtain⟨name,key,fields⟩:=t;obtain⟨fa,fc,rfl,hK,hnc,hn,ho⟩:=hR;simp only at hK hnc hn ho;have h3:=hK.1;obtain⟨-,C,hA,hr⟩:=hK;go_enter Tryz.func135,Tryz.ntmps135
 go_wp2_with fail
 go_loopw [9] (fun i wr=>∃k:Nat,k<=fields.length∧i=.int .i64 k∧Below (w.heap.size+1) (w.alloc (.cells #[.string name,.string key,.slice fa fields.length fc] 96)) wr∧aB4 ⟨name,key,fields⟩ k=true) (fun i _=>fields.length- (intOf i).toNat)
 case atStart=>exact⟨0,Nat.zero_le _,rfl,Below.refl _ _,rfl⟩
 case round=>
  obtain⟨k,hk,rfl,hbel,hp⟩:=hrel;have HP:Hid (aB4 ⟨name,key,fields⟩ k=true):=hp;clear hp;have hz:=hbel.size;simp at hz;have hbw:Below w.heap.size w wr:=(aA2 w _).trans (hbel.mono (by omega))
  by_cases hlt:k<fields.length
  ·obtain⟨b,off,rfl,hbB,hc⟩:=hA (by omega)
   have hck:∀j,j<8->wr.cell? ⟨b,off+k*8+j,none⟩=some (C k j):=fun j hj=>(hbw.cell (p:=⟨b,off+k*8+j,none⟩) (by show b<_;omega)).trans (hc k hlt j hj)
   obtain⟨e0,e1,e2,e3,e4,e5,e6,na,nc,e7,hS,hnc2,-,-⟩:=(hr k hlt).parts;have c0:wr.cell? ⟨b,off+k*8,none⟩=some (C k 0):=hck 0 (by omega)
   have c1:=hck 1 (by omega)
   have c2:=hck 2 (by omega)
   have c3:=hck 3 (by omega)
   have c4:=hck 4 (by omega)
   have c5:=hck 5 (by omega)
   have c6:=hck 6 (by omega)
   have c7:=hck 7 (by omega)
   rw[e0] at c0;rw[e1] at c1;rw[e2] at c2;rw[e3] at c3;rw[e4] at c4;rw[e5] at c5;rw[e6] at c6;rw[e7] at c7;clear hck hc hr hA e0 e1 e2 e3 e4 e5 e6 e7;have hno:=aEZ ⟨name,key,fields⟩ k;have hnf:=fun h=>aBM (q:=fun i=>aDJ ⟨name,key,fields⟩ (fth fields i)) (n:=fields.length) (k:=k) hlt h;rw[HP.out] at hno;have HNO:Hid (aB4 ⟨name,key,fields⟩ (k+1)=(true&&aDJ ⟨name,key,fields⟩ (fth fields k))):=hno;have HNF:Hid (aDJ ⟨name,key,fields⟩ (fth fields k)=false->aB4 ⟨name,key,fields⟩ fields.length=false):=hnf;clear hno hnf;generalize fth fields k=f at*;obtain⟨fn,of,l,m,fr,hi,sh,needs⟩:=f;simp only at c0 c1 c2 c3 c4 c5 c6 c7 hS hnc2;have BF:∀W,Below (wr.heap.size+1) (wr.alloc (.cells #[.string fn,.string of,.bool l,.bool m,.bool fr,.bool hi,.bool sh,.slice na needs.length nc] 80)) W->W.cell? ⟨w.heap.size,0,none⟩=some (.string name)∧W.cell? ⟨w.heap.size,1,none⟩=some (.string key)∧W.cell? ⟨w.heap.size,2,none⟩=some (.slice (some ⟨b,off,none⟩) fields.length fc)∧W.cell? ⟨wr.heap.size,7,none⟩=some (.slice na needs.length nc)∧Below w.heap.size w W∧Below (w.heap.size+1) (w.alloc (.cells #[.string name,.string key,.slice (some ⟨b,off,none⟩) fields.length fc] 96)) W∧w.heap.size<W.heap.size:=fun W h=>by
    have hw2:Below (w.heap.size+1) (w.alloc (.cells #[.string name,.string key,.slice (some ⟨b,off,none⟩) fields.length fc] 96)) W:=hbel.trans (((aA2 wr _).trans (h.mono (by omega))).mono (by omega))
    have hcell:∀i (hi:i<3),W.cell? ⟨w.heap.size,i,none⟩=some #[Value.string name,.string key,.slice (some ⟨b,off,none⟩) fields.length fc][i]:=fun i hi=>(hw2.cell (p:=⟨w.heap.size,i,none⟩) (by show w.heap.size<_;omega)).trans (aBC _ _ i (by simpa using hi))
    have hz2:=h.size;simp at hz2;exact⟨hcell 0 (by omega),hcell 1 (by omega),hcell 2 (by omega),(h.cell (p:=⟨wr.heap.size,7,none⟩) (by show wr.heap.size<_;omega)).trans (aBC _ _ 7 (by simp)),(aA2 w _).trans (hw2.mono (by omega)),hw2,by omega⟩
   have h20:=fun w=>aD7 (aCD l m fr hi sh) 20 w;rw[aQ9] at h20;have hcn:=fun w=>aNS fn of l m fr hi sh na needs.length nc name key (some ⟨b,off,none⟩) fields.length fc w;have hasc:=fun W (h:Below (wr.heap.size+1) (wr.alloc (.cells #[.string fn,.string of,.bool l,.bool m,.bool fr,.bool hi,.bool sh,.slice na needs.length nc] 80)) W)=>aL0 needs na nc W (·<B) (hS.under ((BF W h).2.2.2.2.1.mono hB)) hnc2;have hthr:=fun W (h:Below (wr.heap.size+1) (wr.alloc (.cells #[.string fn,.string of,.bool l,.bool m,.bool fr,.bool hi,.bool sh,.slice na needs.length nc] 80)) W)=>aSC ⟨name,key,fields⟩ needs na nc W B _ (hR'.under ((BF W h).2.2.2.2.1.mono hB)) (hS.under ((BF W h).2.2.2.2.1.mono hB)) hnc2 (by have:=(BF W h).2.2.2.2.2.2;omega)
   have HOK:Hid (aDJ ⟨name,key,fields⟩ ⟨fn,of,l,m,fr,hi,sh,needs⟩=((needs.isEmpty||(isT of [105,110,116]&&!(l||fr||m)&&!key.toList.isEmpty&&!(fn.toList==key.toList)))&&(aHS needs needs.length&&aCX ⟨name,key,fields⟩ needs needs.length)&&!(fr&&sh))):=by
    show _=_;simp only[aDJ,aE7,aI5,aET];cases isT of [105,110,116]<;>cases l<;>cases fr<;>cases m<;>simp
   cases x1:(fr&&sh)
   rotate_left
   ·rw[x1] at h20;have hres:Hid (aB4 ⟨name,key,fields⟩ fields.length=false):=HNF.out (by rw[HOK.out,x1];simp)
    go_wp2_with (first
     |(
      go_at_call 139
      refine(aBN _ _ _ _ _ _ _ _ _ _ _).mono ?_;rintro e w1 ⟨rfl,hb1⟩;have hA1:Below (wr.heap.size+1) (wr.alloc (.cells #[.string fn,.string of,.bool l,.bool m,.bool fr,.bool hi,.bool sh,.slice na needs.length nc] 80)) w1:=by simpa using hb1
      have B2:=fun o=>BF (w1.alloc o) (hA1.alloc (by have:=hA1.size;simpa using this) o)
      have p0:=fun o=>(B2 o).1;have p1:=fun o=>(B2 o).2.1;have p2:=fun o=>(B2 o).2.2.1;have p7:=fun o=>(B2 o).2.2.2.1;have z1:=hA1.size;simp at z1)
     |(
      go_at_call 161
      refine(h20 _).mono ?_;rintro e w' ⟨rfl,rfl⟩)
     |(
      go_at_call 162
      refine(hcn _).mono ?_;rintro e w3 ⟨rfl,hb3⟩;have hA3:=(hA1.alloc (by omega) _).trans (hb3.mono (by simp;omega))
      obtain⟨q0,q1,q2,q7,-⟩:=BF w3 hA3)
     |(
      go_at_call 163
      first
       |(
        refine(hasc w3 hA3).mono ?_;rintro e w4 ⟨rfl,hb4⟩;have hA4:=hA3.trans (hb4.mono (by have:=hA3.size;simpa using this))
        obtain⟨r0,r1,r2,r7,-⟩:=BF w4 hA4)
       |(
        refine(hasc (w1.alloc _) (hA1.alloc (by omega) _)).mono ?_
        rintro e w4 ⟨rfl,hb4⟩;have hA4:=(hA1.alloc (by omega) _).trans (hb4.mono (by simp;omega))
        obtain⟨r0,r1,r2,r7,-⟩:=BF w4 hA4))
     |(
      go_at_call 164
      refine(hthr w4 hA4).mono ?_;rintro e w5 ⟨rfl,hb5⟩;have hA5:=hA4.trans (hb5.mono (by have:=hA4.size;simpa using this))))
    go_ret
    exact⟨aA4 hres.out.symm,(B2 _).2.2.2.2.1⟩
   rw[x1] at h20;by_cases hne:needs.length=0
   ·have hn1:decide (0<needs.length)=false:=decide_eq_false (by omega)
    have hn2:decide (0<(needs.length:Int))=false:=decide_eq_false (by omega)
    have hea:aHS needs needs.length=true:=by rw[hne];rfl
    have het:aCX ⟨name,key,fields⟩ needs needs.length=true:=by rw[hne];rfl
    have hnext:Hid (aB4 ⟨name,key,fields⟩ (k+1)=true):=by
     show _=_;rw[HNO.out,HOK.out,hea,het,x1];have:needs=[]:=List.eq_nil_of_length_eq_zero hne;simp[this]
    rw[hea] at hasc;rw[het] at hthr;clear hea het hne;go_wp2_with (first
     |(
      go_at_call 139
      refine(aBN _ _ _ _ _ _ _ _ _ _ _).mono ?_;rintro e w1 ⟨rfl,hb1⟩;have hA1:Below (wr.heap.size+1) (wr.alloc (.cells #[.string fn,.string of,.bool l,.bool m,.bool fr,.bool hi,.bool sh,.slice na needs.length nc] 80)) w1:=by simpa using hb1
      have B2:=fun o=>BF (w1.alloc o) (hA1.alloc (by have:=hA1.size;simpa using this) o)
      have p0:=fun o=>(B2 o).1;have p1:=fun o=>(B2 o).2.1;have p2:=fun o=>(B2 o).2.2.1;have p7:=fun o=>(B2 o).2.2.2.1;have z1:=hA1.size;simp at z1)
     |(
      go_at_call 161
      refine(h20 _).mono ?_;rintro e w' ⟨rfl,rfl⟩)
     |(
      go_at_call 162
      refine(hcn _).mono ?_;rintro e w3 ⟨rfl,hb3⟩;have hA3:=(hA1.alloc (by omega) _).trans (hb3.mono (by simp;omega))
      obtain⟨q0,q1,q2,q7,-⟩:=BF w3 hA3)
     |(
      go_at_call 163
      first
       |(
        refine(hasc w3 hA3).mono ?_;rintro e w4 ⟨rfl,hb4⟩;have hA4:=hA3.trans (hb4.mono (by have:=hA3.size;simpa using this))
        obtain⟨r0,r1,r2,r7,-⟩:=BF w4 hA4)
       |(
        refine(hasc (w1.alloc _) (hA1.alloc (by omega) _)).mono ?_
        rintro e w4 ⟨rfl,hb4⟩;have hA4:=(hA1.alloc (by omega) _).trans (hb4.mono (by simp;omega))
        obtain⟨r0,r1,r2,r7,-⟩:=BF w4 hA4))
     |(
      go_at_call 164
      refine(hthr w4 hA4).mono ?_;rintro e w5 ⟨rfl,hb5⟩;have hA5:=hA4.trans (hb5.mono (by have:=hA4.size;simpa using this))))
    go_roundw
    case rel=>exact⟨k+1,by omega,by go_num,(BF w5 hA5).2.2.2.2.2.1,hnext.out⟩
    case measure=>simp[intOf];omega
   have hn1:decide (0<needs.length)=true:=decide_eq_true (by omega)
   have hn2:decide (0<(needs.length:Int))=true:=decide_eq_true (by omega)
   have hemp:Hid (needs.isEmpty=false):=by
    show _=_;rw[List.isEmpty_eq_false_iff];intro e;exact hne (by rw[e];rfl)
   cases x2:(isT of [105,110,116]&&!(l||fr||m)&&!key.toList.isEmpty&&!(fn.toList==key.toList))
   ·rw[x2] at hcn;have hres:Hid (aB4 ⟨name,key,fields⟩ fields.length=false):=HNF.out (by rw[HOK.out,x2,hemp.out];rfl)
    go_wp2_with (first
     |(
      go_at_call 139
      refine(aBN _ _ _ _ _ _ _ _ _ _ _).mono ?_;rintro e w1 ⟨rfl,hb1⟩;have hA1:Below (wr.heap.size+1) (wr.alloc (.cells #[.string fn,.string of,.bool l,.bool m,.bool fr,.bool hi,.bool sh,.slice na needs.length nc] 80)) w1:=by simpa using hb1
      have B2:=fun o=>BF (w1.alloc o) (hA1.alloc (by have:=hA1.size;simpa using this) o)
      have p0:=fun o=>(B2 o).1;have p1:=fun o=>(B2 o).2.1;have p2:=fun o=>(B2 o).2.2.1;have p7:=fun o=>(B2 o).2.2.2.1;have z1:=hA1.size;simp at z1)
     |(
      go_at_call 161
      refine(h20 _).mono ?_;rintro e w' ⟨rfl,rfl⟩)
     |(
      go_at_call 162
      refine(hcn _).mono ?_;rintro e w3 ⟨rfl,hb3⟩;have hA3:=(hA1.alloc (by omega) _).trans (hb3.mono (by simp;omega))
      obtain⟨q0,q1,q2,q7,-⟩:=BF w3 hA3)
     |(
      go_at_call 163
      first
       |(
        refine(hasc w3 hA3).mono ?_;rintro e w4 ⟨rfl,hb4⟩;have hA4:=hA3.trans (hb4.mono (by have:=hA3.size;simpa using this))
        obtain⟨r0,r1,r2,r7,-⟩:=BF w4 hA4)
       |(
        refine(hasc (w1.alloc _) (hA1.alloc (by omega) _)).mono ?_
        rintro e w4 ⟨rfl,hb4⟩;have hA4:=(hA1.alloc (by omega) _).trans (hb4.mono (by simp;omega))
        obtain⟨r0,r1,r2,r7,-⟩:=BF w4 hA4))
     |(
      go_at_call 164
      refine(hthr w4 hA4).mono ?_;rintro e w5 ⟨rfl,hb5⟩;have hA5:=hA4.trans (hb5.mono (by have:=hA4.size;simpa using this))))
    go_ret
    exact⟨aA4 hres.out.symm,(BF w3 hA3).2.2.2.2.1⟩
   rw[x2] at hcn;cases x3:aHS needs needs.length
   ·rw[x3] at hasc;have hres:Hid (aB4 ⟨name,key,fields⟩ fields.length=false):=HNF.out (by rw[HOK.out,x3];simp)
    go_wp2_with (first
     |(
      go_at_call 139
      refine(aBN _ _ _ _ _ _ _ _ _ _ _).mono ?_;rintro e w1 ⟨rfl,hb1⟩;have hA1:Below (wr.heap.size+1) (wr.alloc (.cells #[.string fn,.string of,.bool l,.bool m,.bool fr,.bool hi,.bool sh,.slice na needs.length nc] 80)) w1:=by simpa using hb1
      have B2:=fun o=>BF (w1.alloc o) (hA1.alloc (by have:=hA1.size;simpa using this) o)
      have p0:=fun o=>(B2 o).1;have p1:=fun o=>(B2 o).2.1;have p2:=fun o=>(B2 o).2.2.1;have p7:=fun o=>(B2 o).2.2.2.1;have z1:=hA1.size;simp at z1)
     |(
      go_at_call 161
      refine(h20 _).mono ?_;rintro e w' ⟨rfl,rfl⟩)
     |(
      go_at_call 162
      refine(hcn _).mono ?_;rintro e w3 ⟨rfl,hb3⟩;have hA3:=(hA1.alloc (by omega) _).trans (hb3.mono (by simp;omega))
      obtain⟨q0,q1,q2,q7,-⟩:=BF w3 hA3)
     |(
      go_at_call 163
      first
       |(
        refine(hasc w3 hA3).mono ?_;rintro e w4 ⟨rfl,hb4⟩;have hA4:=hA3.trans (hb4.mono (by have:=hA3.size;simpa using this))
        obtain⟨r0,r1,r2,r7,-⟩:=BF w4 hA4)
       |(
        refine(hasc (w1.alloc _) (hA1.alloc (by omega) _)).mono ?_
        rintro e w4 ⟨rfl,hb4⟩;have hA4:=(hA1.alloc (by omega) _).trans (hb4.mono (by simp;omega))
        obtain⟨r0,r1,r2,r7,-⟩:=BF w4 hA4))
     |(
      go_at_call 164
      refine(hthr w4 hA4).mono ?_;rintro e w5 ⟨rfl,hb5⟩;have hA5:=hA4.trans (hb5.mono (by have:=hA4.size;simpa using this))))
    go_ret
    exact⟨aA4 hres.out.symm,(BF w4 hA4).2.2.2.2.1⟩
   rw[x3] at hasc;cases x4:aCX ⟨name,key,fields⟩ needs needs.length
   ·rw[x4] at hthr;have hres:Hid (aB4 ⟨name,key,fields⟩ fields.length=false):=HNF.out (by rw[HOK.out,x4];simp)
    go_wp2_with (first
     |(
      go_at_call 139
      refine(aBN _ _ _ _ _ _ _ _ _ _ _).mono ?_;rintro e w1 ⟨rfl,hb1⟩;have hA1:Below (wr.heap.size+1) (wr.alloc (.cells #[.string fn,.string of,.bool l,.bool m,.bool fr,.bool hi,.bool sh,.slice na needs.length nc] 80)) w1:=by simpa using hb1
      have B2:=fun o=>BF (w1.alloc o) (hA1.alloc (by have:=hA1.size;simpa using this) o)
      have p0:=fun o=>(B2 o).1;have p1:=fun o=>(B2 o).2.1;have p2:=fun o=>(B2 o).2.2.1;have p7:=fun o=>(B2 o).2.2.2.1;have z1:=hA1.size;simp at z1)
     |(
      go_at_call 161
      refine(h20 _).mono ?_;rintro e w' ⟨rfl,rfl⟩)
     |(
      go_at_call 162
      refine(hcn _).mono ?_;rintro e w3 ⟨rfl,hb3⟩;have hA3:=(hA1.alloc (by omega) _).trans (hb3.mono (by simp;omega))
      obtain⟨q0,q1,q2,q7,-⟩:=BF w3 hA3)
     |(
      go_at_call 163
      first
       |(
        refine(hasc w3 hA3).mono ?_;rintro e w4 ⟨rfl,hb4⟩;have hA4:=hA3.trans (hb4.mono (by have:=hA3.size;simpa using this))
        obtain⟨r0,r1,r2,r7,-⟩:=BF w4 hA4)
       |(
        refine(hasc (w1.alloc _) (hA1.alloc (by omega) _)).mono ?_
        rintro e w4 ⟨rfl,hb4⟩;have hA4:=(hA1.alloc (by omega) _).trans (hb4.mono (by simp;omega))
        obtain⟨r0,r1,r2,r7,-⟩:=BF w4 hA4))
     |(
      go_at_call 164
      refine(hthr w4 hA4).mono ?_;rintro e w5 ⟨rfl,hb5⟩;have hA5:=hA4.trans (hb5.mono (by have:=hA4.size;simpa using this))))
    go_ret
    exact⟨aA4 hres.out.symm,(BF w5 hA5).2.2.2.2.1⟩
   ·rw[x4] at hthr;have hnext:Hid (aB4 ⟨name,key,fields⟩ (k+1)=true):=by
     show _=_;rw[HNO.out,HOK.out,x2,x3,x4,x1];simp
    go_wp2_with (first
     |(
      go_at_call 139
      refine(aBN _ _ _ _ _ _ _ _ _ _ _).mono ?_;rintro e w1 ⟨rfl,hb1⟩;have hA1:Below (wr.heap.size+1) (wr.alloc (.cells #[.string fn,.string of,.bool l,.bool m,.bool fr,.bool hi,.bool sh,.slice na needs.length nc] 80)) w1:=by simpa using hb1
      have B2:=fun o=>BF (w1.alloc o) (hA1.alloc (by have:=hA1.size;simpa using this) o)
      have p0:=fun o=>(B2 o).1;have p1:=fun o=>(B2 o).2.1;have p2:=fun o=>(B2 o).2.2.1;have p7:=fun o=>(B2 o).2.2.2.1;have z1:=hA1.size;simp at z1)
     |(
      go_at_call 161
      refine(h20 _).mono ?_;rintro e w' ⟨rfl,rfl⟩)
     |(
      go_at_call 162
      refine(hcn _).mono ?_;rintro e w3 ⟨rfl,hb3⟩;have hA3:=(hA1.alloc (by omega) _).trans (hb3.mono (by simp;omega))
      obtain⟨q0,q1,q2,q7,-⟩:=BF w3 hA3)
     |(
      go_at_call 163
      first
       |(
        refine(hasc w3 hA3).mono ?_;rintro e w4 ⟨rfl,hb4⟩;have hA4:=hA3.trans (hb4.mono (by have:=hA3.size;simpa using this))
        obtain⟨r0,r1,r2,r7,-⟩:=BF w4 hA4)
       |(
        refine(hasc (w1.alloc _) (hA1.alloc (by omega) _)).mono ?_
        rintro e w4 ⟨rfl,hb4⟩;have hA4:=(hA1.alloc (by omega) _).trans (hb4.mono (by simp;omega))
        obtain⟨r0,r1,r2,r7,-⟩:=BF w4 hA4))
     |(
      go_at_call 164
      refine(hthr w4 hA4).mono ?_;rintro e w5 ⟨rfl,hb5⟩;have hA5:=hA4.trans (hb5.mono (by have:=hA4.size;simpa using this))))
    go_roundw
    case rel=>exact⟨k+1,by omega,by go_num,(BF w5 hA5).2.2.2.2.2.1,hnext.out⟩
    case measure=>simp[intOf];omega
  ·go_wp2_with fail
   go_ret
   have e:k=fields.length:=by omega
   exact⟨aA4 (by rw[<-HP.out,e]),hbw⟩
end Go.Proofs.YtcebpkeiaiiphaaGreatDoor
