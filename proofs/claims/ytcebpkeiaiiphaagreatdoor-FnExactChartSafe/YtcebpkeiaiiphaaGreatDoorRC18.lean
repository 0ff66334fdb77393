import Derived.Test.YtcebpkeiaiiphaaGreatDoorRC16
import Derived.Test.YtcebpkeiaiiphaaGreatDoorRC8
set_option linter.unusedSimpArgs false
set_option linter.unusedVariables false
namespace Go.Proofs.YtcebpkeiaiiphaaGreatDoor
open Go.RowKit
def aAM(p:Pt)(i:Nat):Int:=
 if aAO (tth p.types i)=false then 1 else if aCH p.types i (tth p.types i)=true then 2 else if aBY p (tth p.types i).fields (tth p.types i).fields.length=false then 3
 else if keyB (tth p.types i)=false then 4 else if aB4 (tth p.types i) (tth p.types i).fields.length=false then 5 else 0
theorem aKM{q:Nat->Bool}{n k:Nat}(hk:k<n)(hq:q k=true):(aA9 q n=(k:Int)↔¬0<=aA9 q k):=by
 rcases aA8 q k with⟨h,ha⟩| ⟨j,h,hj,hqj,ha⟩
 ·rw[aAX ha hq hk,h];simp
 ·rw[aAX ha hqj (by omega),h]
  constructor
  ·intro e;omega
  ·intro e;omega
theorem aNL(t:T)(f:F)(w:World)(v u:Value)(B:Nat)(hR:TRep w (·<B) t v)(hF:FRep w (·<B) f u)(hB:B<=w.heap.size):
  Calls Tryz.prog 103 #[v,u] w fun e w'=>e=.returned (.bool (aE7 t f))∧Below w.heap.size w w':=by
 by_cases h0:f.needs=[]
 ·exact aMZ t f w v u B hR hF hB h0
 have h1:0<f.needs.length:=by cases h:f.needs with
  |nil=>exact absurd h h0
  |cons a l=>simp
 cases hh:aET t f
 ·exact aMH t f w v u B hR hF hB h1 hh
 ·exact aLX t f w v u B hR hF hB h1 hh
set_option maxRecDepth 20000 in
set_option maxHeartbeats 3200000 in
theorem aO7(p:Pt)(at':Nat)(w:World)(B:Nat)(v:Value)(hP:PRep w (·<B) p v)(hat:at'<p.types.length)(hB:B<=w.heap.size):
  Calls Tryz.prog 73 #[v,.int .i64 at'] w fun e w'=>e=.returned (.int .i64 (aAM p at'))∧Below w.heap.size w w':=by
 have hP':=hP;obtain⟨pname,types⟩:=p;obtain⟨ta,tc,rfl,hK,hnc,hpn⟩:=hP;simp only at hK hnc hpn hat hP';have h56:=hK.1;have HC:Hid (aAM ⟨pname,types⟩ at'=if aAO (tth types at')=false then 1 else if aCH types at' (tth types at')=true then 2 else if aBY ⟨pname,types⟩ (tth types at').fields (tth types at').fields.length=false then 3 else if keyB (tth types at')=false then 4 else if aB4 (tth types at') (tth types at').fields.length=false then 5 else 0):=rfl
 have HTW:Hid (aCH types at' (tth types at')=(!decide (aAR ⟨pname,types⟩ (tth types at').name=(at':Int))||!aCY (tth types at') (tth types at').fields.length)):=by
  show _=_;have:=aKM (q:=fun i=>(tth types i).name.toList==(tth types at').name.toList) hat (by simp)
  rw[aCH,aAR]
  congr 1
  by_cases h:aA9 (fun i=>(tth types i).name.toList==(tth types at').name.toList) types.length=(at':Int)
  ·have h2:=this.1 h;simp[h,h2]
  ·have h2:0<=aA9 (fun i=>(tth types i).name.toList==(tth types at').name.toList) at':=by
    apply Classical.byContradiction;intro h3;exact h (this.2 h3)
   simp[h,h2]
 obtain⟨b,off,fa,fc,hta,htr,hcs⟩:=hK.at hB at' hat;subst hta;obtain⟨c0,c1,c2⟩:=(fun o=>hcs (w.alloc o) (aA2 w o)) |> fun q=>(⟨fun o=>(q o).1,fun o=>(q o).2.1,fun o=>(q o).2.2⟩:(∀o,(w.alloc o).cell? ⟨b,off+at'*3,none⟩=_)∧(∀o,(w.alloc o).cell? ⟨b,off+at'*3+1,none⟩=_)∧(∀o,(w.alloc o).cell? ⟨b,off+at'*3+2,none⟩=_));clear hcs;have hai:(at':Int)<(types.length:Int):=by omega
 obtain⟨fa',fc',e0,e1,e2,hfs,hffc,hs1,hs2⟩:=htr.parts;simp only[Value.slice.injEq] at e2;obtain⟨rfl,-,rfl⟩:=e2;clear e0 e1;have HNM:Hid (aAO (tth types at')=(aBB (tth types at').name&&((tth types at').key.toList.isEmpty||aBB (tth types at').key)&&decide (0<(tth types at').fields.length)&&decide ((tth types at').fields.length<=8)&&aAN (tth types at').fields (tth types at').fields.length)):=rfl;obtain⟨X,hXe⟩:∃X,X=((w.alloc (.cells #[.string pname,.slice (some ⟨b,off,none⟩) types.length tc] 46)).alloc (.cells #[.string (tth types at').name,.string (tth types at').key,.slice fa (tth types at').fields.length fc] 96)):=⟨_,rfl⟩;have BX:∀W,Below (w.heap.size+1+1) X W->W.cell? ⟨w.heap.size,0,none⟩=some (.string pname)∧W.cell? ⟨w.heap.size,1,none⟩=some (.slice (some ⟨b,off,none⟩) types.length tc)∧W.cell? ⟨w.heap.size+1,0,none⟩=some (.string (tth types at').name)∧W.cell? ⟨w.heap.size+1,1,none⟩=some (.string (tth types at').key)∧W.cell? ⟨w.heap.size+1,2,none⟩=some (.slice fa (tth types at').fields.length fc)∧Below w.heap.size w W∧w.heap.size+1<W.heap.size:=fun W h=>by
  subst hXe;have hz:=h.size;simp at hz;have a:∀i (hi:i<2),W.cell? ⟨w.heap.size,i,none⟩=some #[Value.string pname,.slice (some ⟨b,off,none⟩) types.length tc][i]:=fun i hi=>(h.cell (p:=⟨w.heap.size,i,none⟩) (by show w.heap.size<_;omega)).trans (((aA2 _ _).cell (p:=⟨w.heap.size,i,none⟩) (by show w.heap.size<_;simp)).trans (aBC _ _ i (by simpa using hi)))
  have c:∀i (hi:i<3),W.cell? ⟨w.heap.size+1,i,none⟩=some #[Value.string (tth types at').name,.string (tth types at').key,.slice fa (tth types at').fields.length fc][i]:=fun i hi=>(h.cell (p:=⟨w.heap.size+1,i,none⟩) (by show w.heap.size+1<_;omega)).trans (by simp)
  exact⟨a 0 (by omega),a 1 (by omega),c 0 (by omega),c 1 (by omega),c 2 (by omega),(aA6 w _ _).trans (h.mono (by omega)),by omega⟩
 have hT0:Below (w.heap.size+1+1) X ((w.alloc (.cells #[.string pname,.slice (some ⟨b,off,none⟩) types.length tc] 46)).alloc (.cells #[.string (tth types at').name,.string (tth types at').key,.slice fa (tth types at').fields.length fc] 96)):=by rw[hXe];exact Below.refl _ _
 clear hXe;have TR:=fun W (h:Below (w.heap.size+1+1) X W)=>htr.under ((BX W h).2.2.2.2.2.1.mono hB);have hBW:=fun W (h:Below (w.heap.size+1+1) X W)=>show B<=W.heap.size by have:=(BX W h).2.2.2.2.2.2;omega
 have hN1:=fun w=>aDP (tth types at').name w hs1;have hN2:=fun w=>aDP (tth types at').key w hs2;have hKY:=fun W h=>aS5 (tth types at') W B _ (TR W h) (hBW W h);have hIX:=fun W h s=>aDO ⟨pname,types⟩ W B _ s (hP'.under ((BX W h).2.2.2.2.2.1.mono hB)) (hBW W h);have hFX:=fun W h s=>aD3 (tth types at') W B _ s (TR W h) (hBW W h);have hND:=fun W h i u hF=>aNL (tth types at') (fth (tth types at').fields i) W _ u B (TR W h) hF (hBW W h);cases x1:aBB (tth types at').name
 ·rw[x1] at hN1;have hcode:Hid (aAM ⟨pname,types⟩ at'=1):=by show _=_;rw[HC.out,if_pos (by rw[HNM.out,x1];rfl)]
  go_enter Tryz.func73,Tryz.ntmps73
  go_wp2_with (go_at_call_of 72 (Value.string (tth types at').name);refine(hN1 _).mono ?_;rintro e w' ⟨rfl,rfl⟩)
  go_ret
  exact⟨aBZ hcode.out.symm,aA6 _ _ _⟩
 rw[x1] at hN1;have long:∀b1:Bool,(tth types at').key.toList.isEmpty=b1->(b1=false->aBB (tth types at').key=true)->Calls Tryz.prog 73 #[.agg #[.string pname,.slice (some ⟨b,off,none⟩) types.length tc],.int .i64 at'] w fun e w'=>e=.returned (.int .i64 (aAM ⟨pname,types⟩ at'))∧Below w.heap.size w w':=by
  intro b1 hb1 hb2;have HE:Hid (aAO (tth types at')=(decide (0<(tth types at').fields.length)&&decide ((tth types at').fields.length<=8)&&aAN (tth types at').fields (tth types at').fields.length)):=by
   show _=_;rw[HNM.out,x1,hb1];cases b1
   ·rw[hb2 rfl];rfl
   ·rfl
  by_cases hlen:0<(tth types at').fields.length∧(tth types at').fields.length<=8
  ·have d1:(((tth types at').fields.length:Int)==0)=false:=by simp;intro e;simp[e] at hlen
   have d2:decide ((8:Int)<((tth types at').fields.length:Int))=false:=decide_eq_false (by omega)
   have d3:decide (8<(tth types at').fields.length)=false:=decide_eq_false (by omega)
   have HE2:Hid (aAO (tth types at')=aAN (tth types at').fields (tth types at').fields.length):=by
    show _=_;rw[HE.out,decide_eq_true hlen.1,decide_eq_true hlen.2];rfl
   clear HE HNM;cases b1;all_goals
    first| (have hb3:=hb2 rfl;rw[hb3] at hN2;clear hb3)| skip
    clear hb2;go_enter Tryz.func73,Tryz.ntmps73
    go_wp2_with (first| (go_at_call_of 72 (Value.string (tth types at').name);refine(hN1 _).mono ?_;rintro e w' ⟨rfl,rfl⟩)| (go_at_call_of 72 (Value.string (tth types at').key);refine(hN2 _).mono ?_;rintro e w' ⟨rfl,rfl⟩))
    go_loopw [6] (fun i wr=>∃k:Nat,k<=(tth types at').fields.length∧i=.int .i64 k∧aAN (tth types at').fields k=true∧Below (w.heap.size+1+1) X wr) (fun i _=>(tth types at').fields.length- (intOf i).toNat)
    case atStart=>exact⟨0,Nat.zero_le _,rfl,rfl,hT0⟩
    case round=>
     obtain⟨k,hk,rfl,hp,hbl⟩:=hrel;have HP:Hid (aAN (tth types at').fields k=true):=hp;clear hp;obtain⟨w0,rfl⟩:∃x,x=wr:=⟨wr,rfl⟩;obtain⟨p0,p1,t0,t1,t2,hbw,hz⟩:=BX w0 hbl;by_cases hlt:k<(tth types at').fields.length
     ·obtain⟨fb,foff,na,nc,rfl,hfr,hcf⟩:=hfs.at hB k hlt;obtain⟨g0,g1,g2,g3,g4,g5,g6,g7⟩:=hcf w0 hbw;clear hcf;have hfr':=hfr;obtain⟨na',nc',hv,hS,hnc2,hsn,hso,hb16⟩:=hfr;simp only[Value.agg.injEq,Array.mk.injEq,List.cons.injEq,Value.slice.injEq,and_true,true_and] at hv;obtain⟨rfl,rfl⟩:=hv;have hF1:=fun w=>aDP (fth (tth types at').fields k).name w hsn;have hF2:=fun w=>aDP (fth (tth types at').fields k).of w hso;have hF3:=fun w=>aAY (fth (tth types at').fields k).of w;have HFF:Hid (aBS (fth (tth types at').fields k)=(aBB (fth (tth types at').fields k).name&&(aAV (fth (tth types at').fields k).of||aBB (fth (tth types at').fields k).of)&&aD2 (fth (tth types at').fields k).needs (fth (tth types at').fields k).needs.length)):=rfl;have HBAD:Hid (aBS (fth (tth types at').fields k)=false->aAM ⟨pname,types⟩ at'=1):=fun h=>by
       rw[HC.out,if_pos (by rw[HE2.out];exact aBM (k:=k) hlt h)]
      have hbf:=hbw.alloc (by omega:w.heap.size<=w0.heap.size) (.cells #[.string (fth (tth types at').fields k).name,.string (fth (tth types at').fields k).of,.bool (fth (tth types at').fields k).list,.bool (fth (tth types at').fields k).must,.bool (fth (tth types at').fields k).far,.bool (fth (tth types at').fields k).hidden,.bool (fth (tth types at').fields k).shared,.slice na (fth (tth types at').fields k).needs.length nc] 80)
      clear hKY hIX hFX hND TR hBW HC HTW HE2 hP' htr c0 c1 c2 hfr';cases y1:aBB (fth (tth types at').fields k).name
      ·rw[y1] at hF1;have hcode:Hid (aAM ⟨pname,types⟩ at'=1):=HBAD.out (by rw[HFF.out,y1];rfl)
       go_wp2_with (go_at_call_of 72 (Value.string (fth (tth types at').fields k).name);refine(hF1 _).mono ?_;rintro e w' ⟨rfl,rfl⟩)
       go_ret
       exact⟨aBZ hcode.out.symm,hbf⟩
      rw[y1] at hF1;cases y2:(aAV (fth (tth types at').fields k).of||aBB (fth (tth types at').fields k).of)
      ·have hs:aAV (fth (tth types at').fields k).of=false:=by cases h:aAV (fth (tth types at').fields k).of<;>simp_all
       have hn:aBB (fth (tth types at').fields k).of=false:=by cases h:aBB (fth (tth types at').fields k).of<;>simp_all
       rw[hs] at hF3;rw[hn] at hF2;have hcode:Hid (aAM ⟨pname,types⟩ at'=1):=HBAD.out (by rw[HFF.out,y2];simp)
       go_wp2_with (first| (go_at_call_of 72 (Value.string (fth (tth types at').fields k).name);refine(hF1 _).mono ?_;rintro e w' ⟨rfl,rfl⟩)| (go_at_call 76;refine(hF3 _).mono ?_;rintro e w' ⟨rfl,rfl⟩)| (go_at_call_of 72 (Value.string (fth (tth types at').fields k).of);refine(hF2 _).mono ?_;rintro e w' ⟨rfl,rfl⟩))
       go_ret
       exact⟨aBZ hcode.out.symm,hbf⟩
      have HFN:Hid (aBS (fth (tth types at').fields k)=aD2 (fth (tth types at').fields k).needs (fth (tth types at').fields k).needs.length):=by show _=_;rw[HFF.out,y1,y2];rfl
      obtain⟨q1,q2,q3⟩:=hS;have q3':=q3;unfold maxLen at q3';have hsn2:∀b2:Bool,aAV (fth (tth types at').fields k).of=b2->(b2=false->aBB (fth (tth types at').fields k).of=true):=fun b2 e h=>by rw[h] at e;rw[e] at y2;simpa using y2
      cases y3:aAV (fth (tth types at').fields k).of;all_goals
       first| (have hn2:=hsn2 false y3 rfl;rw[hn2] at hF2;clear hn2)| skip
       clear hsn2 y2;rw[y3] at hF3;go_wp2_with (first| (go_at_call_of 72 (Value.string (fth (tth types at').fields k).name);refine(hF1 _).mono ?_;rintro e w' ⟨rfl,rfl⟩)| (go_at_call 76;refine(hF3 _).mono ?_;rintro e w' ⟨rfl,rfl⟩)| (go_at_call_of 72 (Value.string (fth (tth types at').fields k).of);refine(hF2 _).mono ?_;rintro e w' ⟨rfl,rfl⟩))
       go_loop [8] (fun i=>∃j:Nat,j<=(fth (tth types at').fields k).needs.length∧i=.int .i64 j∧aD2 (fth (tth types at').fields k).needs j=true) (fun i=>(fth (tth types at').fields k).needs.length- (intOf i).toNat)
       case atStart=>exact⟨0,Nat.zero_le _,rfl,rfl⟩
       case round=>
        obtain⟨j,hj,rfl,hpj⟩:=hrel;have HPJ:Hid (aD2 (fth (tth types at').fields k).needs j=true):=hpj;clear hpj;by_cases hjt:j<(fth (tth types at').fields k).needs.length
        ·obtain⟨d,doff,rfl,hdB,hcc⟩:=q1 (by intro e;simp[e] at hjt)
         have hck:(w0.alloc (.cells #[.string (fth (tth types at').fields k).name,.string (fth (tth types at').fields k).of,.bool (fth (tth types at').fields k).list,.bool (fth (tth types at').fields k).must,.bool (fth (tth types at').fields k).far,.bool (fth (tth types at').fields k).hidden,.bool (fth (tth types at').fields k).shared,.slice (some ⟨d,doff,none⟩) (fth (tth types at').fields k).needs.length nc] 80)).cell? ⟨d,doff+j,none⟩=some (.string (nth (fth (tth types at').fields k).needs j)):=(hbf.cell (p:=⟨d,doff+j,none⟩) (by show d<_;omega)).trans (hcc j hjt)
         have hNk:=fun w=>aDP (nth (fth (tth types at').fields k).needs j) w (q2 j);clear hcc q1;cases y4:aBB (nth (fth (tth types at').fields k).needs j)
         ·rw[y4] at hNk;have hcode:Hid (aAM ⟨pname,types⟩ at'=1):=HBAD.out (by rw[HFN.out];exact aBM (k:=j) hjt y4)
          go_wp2_with (go_at_call 72;refine(hNk _).mono ?_;rintro e w' ⟨rfl,rfl⟩)
          go_ret
          exact⟨aBZ hcode.out.symm,hbf⟩
         ·rw[y4] at hNk;go_wp2_with (go_at_call 72;refine(hNk _).mono ?_;rintro e w' ⟨rfl,rfl⟩)
          go_round
          case rel=>exact⟨j+1,by omega,by go_num,by rw[aHZ,HPJ.out,y4];rfl⟩
          case measure=>simp[intOf];omega
        ·have hje:j=(fth (tth types at').fields k).needs.length:=by omega
         go_wp2_with fail
         go_roundw
         case rel=>exact⟨k+1,by omega,by go_num,by rw[aE6,HP.out,HFN.out,<-hje,HPJ.out];rfl,hbl.alloc (by omega) _⟩
         case measure=>simp[intOf];omega
     ·have hke:k=(tth types at').fields.length:=by omega
      have HN1:Hid (aAO (tth types at')=true):=by show _=_;rw[HE2.out,<-hke];exact HP.out
      clear HP HE2 hN1 hN2 hke x1 hb1;have hIX1:=hIX w0 hbl (tth types at').name;by_cases hx:aA9 (fun i=>(tth types i).name.toList==(tth types at').name.toList) types.length=(at':Int)
      ·rw[hx] at hIX1;have hx2:=hx;clear hx;go_wp2_with (go_at_call 62;refine hIX1.mono ?_;rintro e w1 ⟨rfl,hb1⟩)
       have hT1:=hbl.trans (hb1.mono (by omega))
       clear hb1 hIX1 p0 p1 t0 t1 t2 hbw hz hbl hlt hk;go_loopw [9] (fun i wr=>∃k:Nat,k<=(tth types at').fields.length∧i=.int .i64 k∧aCY (tth types at') k=true∧Below (w.heap.size+1+1) X wr) (fun i _=>(tth types at').fields.length- (intOf i).toNat)
       case atStart=>exact⟨0,Nat.zero_le _,rfl,rfl,hT1⟩
       case round=>
        clear hT1;obtain⟨k,hk,rfl,hp,hbl⟩:=hrel;have HP:Hid (aCY (tth types at') k=true):=hp;clear hp;obtain⟨w2,rfl⟩:∃x,x=wr:=⟨wr,rfl⟩;obtain⟨p0,p1,t0,t1,t2,hbw,hz⟩:=BX w2 hbl;by_cases hlt:k<(tth types at').fields.length
        ·obtain⟨fb,foff,na,nc,rfl,hfr,hcf⟩:=hfs.at hB k hlt;obtain⟨g0,g1,g2,g3,g4,g5,g6,g7⟩:=hcf w2 hbw;have hFX1:=hFX w2.drew hbl.drew (fth (tth types at').fields k).name;have hbS:=hbl.size;obtain⟨ix,HIX⟩:∃ix,Hid (aA9 (fun i=>(fth (tth types at').fields i).name.toList==(fth (tth types at').fields k).name.toList) (tth types at').fields.length=ix):=⟨_,rfl⟩;rw[HIX.out] at hFX1;have HON:Hid (aN4 (tth types at') k=!(ix !=(k:Int))):=by
          show _=_;have hat2:=aKM (q:=fun i=>(fth (tth types at').fields i).name.toList==(fth (tth types at').fields k).name.toList) hlt (by simp)
          rw[HIX.out] at hat2;by_cases h:ix=(k:Int)
          ·rw[aN4,decide_eq_false (hat2.1 h)];simp[h]
          ·have h2:0<=aA9 (fun i=>(fth (tth types at').fields i).name.toList==(fth (tth types at').fields k).name.toList) k:=by
            apply Classical.byContradiction;intro h3;exact h (hat2.2 h3)
           rw[aN4,decide_eq_true h2];simp[h]
         clear HIX hfr;go_wp2_with fail
         go_region_held3 (fun w'=>w'.cell? ⟨w.heap.size+1,0,none⟩=some (.string (tth types at').name)∧w'.cell? ⟨w.heap.size+1,1,none⟩=some (.string (tth types at').key)∧w'.cell? ⟨w.heap.size+1,2,none⟩=some (.slice (some ⟨fb,foff,none⟩) (tth types at').fields.length fc)∧w'.cell? ⟨fb,foff+k*8,none⟩=some (.string (fth (tth types at').fields k).name)) (go_keep)
          (first
           |(
            go_at_call 63
            refine hFX1.mono ?_;rintro e w3 ⟨rfl,hb3⟩;have hb3':=aAF hb3;have hT3:=hbl.trans (hb3'.mono (by omega))
            obtain⟨p30,p31,t30,t31,t32,hbw3,hz3⟩:=BX w3 hT3;obtain⟨g30,g31,g32,g33,g34,g35,g36,g37⟩:=hcf w3 hbw3))
         all_goals
          cases hxn:(ix !=(k:Int))
          ·go_wp2_with fail
           go_roundw
           case rel=>exact⟨k+1,by omega,by go_num,by rw[aHX,HP.out,HON.out,hxn];rfl,hT3⟩
           case measure=>simp[intOf];omega
          ·have hcode:Hid (aAM ⟨pname,types⟩ at'=2):=by
            show _=_;rw[HC.out,if_neg (by rw[HN1.out];simp),if_pos]
            rw[HTW.out,show aCY (tth types at') (tth types at').fields.length=false from aBM (k:=k) hlt (by rw[HON.out,hxn];rfl)];simp
           go_wp2_with fail
           go_ret
           exact⟨aBZ hcode.out.symm,hbw3⟩
        ·have hke:k=(tth types at').fields.length:=by omega
         have HN2:Hid (aCH types at' (tth types at')=false):=by show _=_;rw[HTW.out,aAR,decide_eq_true hx2,<-hke,HP.out];rfl
         clear HP hke HTW hx2;go_wp2_with fail
         clear p0 p1 t0 t1 t2 hbw hz hlt hk;go_loopw [10] (fun i wr=>∃k:Nat,k<=(tth types at').fields.length∧i=.int .i64 k∧aBY ⟨pname,types⟩ (tth types at').fields k=true∧Below (w.heap.size+1+1) X wr) (fun i _=>(tth types at').fields.length- (intOf i).toNat)
         case atStart=>exact⟨0,Nat.zero_le _,rfl,rfl,hbl⟩
         case round=>
          clear hbl;obtain⟨k,hk,rfl,hp,hbl⟩:=hrel;have HP:Hid (aBY ⟨pname,types⟩ (tth types at').fields k=true):=hp;clear hp;obtain⟨w4,rfl⟩:∃x,x=wr:=⟨wr,rfl⟩;obtain⟨p0,p1,t0,t1,t2,hbw,hz⟩:=BX w4 hbl;by_cases hlt:k<(tth types at').fields.length
          ·obtain⟨fb,foff,na,nc,rfl,hfr,hcf⟩:=hfs.at hB k hlt;obtain⟨g0,g1,g2,g3,g4,g5,g6,g7⟩:=hcf w4 hbw;have hSC:=fun w=>aAY (fth (tth types at').fields k).of w;have hIX1:=fun W h=>hIX W h (fth (tth types at').fields k).of;have hbS:=hbl.size;obtain⟨ix,HIX⟩:∃ix,Hid (aA9 (fun i=>(tth types i).name.toList==(fth (tth types at').fields k).of.toList) types.length=ix):=⟨_,rfl⟩;rw[HIX.out] at hIX1;have HKN:Hid (aKF ⟨pname,types⟩ (fth (tth types at').fields k)=(decide (0<=ix)||aAV (fth (tth types at').fields k).of)):=by rw[<-HIX.out];exact rfl
           clear HIX hfr;cases y1:aAV (fth (tth types at').fields k).of
           rotate_left
           ·rw[y1] at hSC;have hgood:Hid (aKF ⟨pname,types⟩ (fth (tth types at').fields k)=true):=by show _=_;rw[HKN.out,y1];simp
            clear HKN hIX1;go_wp2_with fail
            go_quiet ((go_at_call 76;exact Calls.quiet_of_same (by refine(hSC _).mono ?_;rintro e w' ⟨rfl,rfl⟩;exact⟨rfl,rfl⟩)))
            go_wp2_with fail
            go_roundw
            case rel=>exact⟨k+1,by omega,by go_num,by rw[aEC,HP.out,hgood.out];rfl,aAQ hbl _⟩
            case measure=>simp[intOf];omega
           rw[y1] at hSC;go_wp2_with fail
           go_region_held3 (fun w'=>w'.cell? ⟨w.heap.size,0,none⟩=some (.string pname)∧w'.cell? ⟨w.heap.size,1,none⟩=some (.slice (some ⟨b,off,none⟩) types.length tc)∧w'.cell? ⟨w.heap.size+1,2,none⟩=some (.slice (some ⟨fb,foff,none⟩) (tth types at').fields.length fc)∧w'.cell? ⟨fb,foff+k*8+1,none⟩=some (.string (fth (tth types at').fields k).of)) (go_keep)
            (first
             |(go_at_call 76;refine(hSC _).mono ?_;rintro e w' ⟨rfl,rfl⟩)
             |(
              go_at_call 62
              refine(hIX1 _ (by first| exact hbl.drew| exact hbl| exact aAQ hbl _)).mono ?_
              rintro e w5 ⟨rfl,hb5⟩;have hb5':=aAF hb5;have hT5:=hbl.trans (hb5'.mono (by omega))
              obtain⟨p50,p51,t50,t51,t52,hbw5,hz5⟩:=BX w5 hT5;obtain⟨g50,g51,g52,g53,g54,g55,g56,g57⟩:=hcf w5 hbw5))
           all_goals
            by_cases hx:ix<0
            ·have hcode:Hid (aAM ⟨pname,types⟩ at'=3):=by
              show _=_;rw[HC.out,if_neg (by rw[HN1.out];simp),if_neg (by rw[HN2.out];simp),if_pos (show aBY ⟨pname,types⟩ (tth types at').fields (tth types at').fields.length=false from aBM (k:=k) hlt (by rw[HKN.out,decide_eq_false (by omega),y1];rfl))]
             go_wp2_with fail
             go_ret
             exact⟨aBZ hcode.out.symm,hbw5⟩
            ·have hgood:Hid (aKF ⟨pname,types⟩ (fth (tth types at').fields k)=true):=by show _=_;rw[HKN.out,decide_eq_true (by omega)];rfl
             go_wp2_with fail
             go_roundw
             case rel=>exact⟨k+1,by omega,by go_num,by rw[aEC,HP.out,hgood.out];rfl,hT5⟩
             case measure=>simp[intOf];omega
          ·have hke:k=(tth types at').fields.length:=by omega
           have HN3:Hid (aBY ⟨pname,types⟩ (tth types at').fields (tth types at').fields.length=true):=by show _=_;rw[<-hke];exact HP.out
           clear HP hke hIX hFX;have hKY1:=hKY w4 hbl;have hbS:=hbl.size;cases y1:keyB (tth types at')
           ·rw[y1] at hKY1;have hcode:Hid (aAM ⟨pname,types⟩ at'=4):=by
             show _=_;rw[HC.out,if_neg (by rw[HN1.out];simp),if_neg (by rw[HN2.out];simp),if_neg (by rw[HN3.out];simp),if_pos y1]
            go_wp2_with (go_at_call 102;refine hKY1.mono ?_;rintro e w5 ⟨rfl,hb5⟩)
            go_ret
            exact⟨aBZ hcode.out.symm,hbw.trans (hb5.mono (by omega))⟩
           rw[y1] at hKY1;have HN4:Hid (keyB (tth types at')=true):=y1;clear y1;go_wp2_with (go_at_call 102;refine hKY1.mono ?_;rintro e w5 ⟨rfl,hb5⟩)
           have hT5:=hbl.trans (hb5.mono (by omega))
           clear hb5 hKY1 p0 p1 t0 t1 t2 hbw hz hbl hlt hk hbS;go_loopw [11] (fun i wr=>∃k:Nat,k<=(tth types at').fields.length∧i=.int .i64 k∧aB4 (tth types at') k=true∧Below (w.heap.size+1+1) X wr) (fun i _=>(tth types at').fields.length- (intOf i).toNat)
           case atStart=>exact⟨0,Nat.zero_le _,rfl,rfl,hT5⟩
           case round=>
            clear hT5;obtain⟨k,hk,rfl,hp,hbl⟩:=hrel;have HP:Hid (aB4 (tth types at') k=true):=hp;clear hp;obtain⟨w6,rfl⟩:∃x,x=wr:=⟨wr,rfl⟩;obtain⟨p0,p1,t0,t1,t2,hbw,hz⟩:=BX w6 hbl;by_cases hlt:k<(tth types at').fields.length
            ·obtain⟨fb,foff,na,nc,rfl,hfr,hcf⟩:=hfs.at hB k hlt;obtain⟨g0,g1,g2,g3,g4,g5,g6,g7⟩:=hcf w6 hbw;have hbS:=hbl.size;have hND1:=hND w6.drew hbl.drew k _ (hfr.under ((aAQ (n:=1) hbw).mono hB));have HNF:Hid (aDJ (tth types at') (fth (tth types at').fields k)=(aE7 (tth types at') (fth (tth types at').fields k)&&!((fth (tth types at').fields k).far&&(fth (tth types at').fields k).shared))):=rfl;have HBAD:Hid (aDJ (tth types at') (fth (tth types at').fields k)=false->aAM ⟨pname,types⟩ at'=5):=fun h=>by
              rw[HC.out,if_neg (by rw[HN1.out];simp),if_neg (by rw[HN2.out];simp),if_neg (by rw[HN3.out];simp),if_neg (by rw[HN4.out];simp),if_pos (show aB4 (tth types at') (tth types at').fields.length=false from aBM (k:=k) hlt h)]
             clear hfr;cases y1:aE7 (tth types at') (fth (tth types at').fields k)
             ·rw[y1] at hND1;have hcode:Hid (aAM ⟨pname,types⟩ at'=5):=HBAD.out (by rw[HNF.out,y1];rfl)
              go_wp2_with fail
              refine wp_region_held_drew (S:=fun w'=>w'.cell? ⟨w.heap.size+1,0,none⟩=some (.string (tth types at').name)∧w'.cell? ⟨w.heap.size+1,1,none⟩=some (.string (tth types at').key)∧w'.cell? ⟨w.heap.size+1,2,none⟩=some (.slice (some ⟨fb,foff,none⟩) (tth types at').fields.length fc)∧w'.cell? ⟨fb,foff+k*8,none⟩=some (.string (fth (tth types at').fields k).name)∧w'.cell? ⟨fb,foff+k*8+1,none⟩=some (.string (fth (tth types at').fields k).of)∧w'.cell? ⟨fb,foff+k*8+2,none⟩=some (.bool (fth (tth types at').fields k).list)∧w'.cell? ⟨fb,foff+k*8+3,none⟩=some (.bool (fth (tth types at').fields k).must)∧w'.cell? ⟨fb,foff+k*8+4,none⟩=some (.bool (fth (tth types at').fields k).far)∧w'.cell? ⟨fb,foff+k*8+5,none⟩=some (.bool (fth (tth types at').fields k).hidden)∧w'.cell? ⟨fb,foff+k*8+6,none⟩=some (.bool (fth (tth types at').fields k).shared)∧w'.cell? ⟨fb,foff+k*8+7,none⟩=some (.slice na (fth (tth types at').fields k).needs.length nc)) (by kernel_rfl) ⟨t0,t1,t2,g0,g1,g2,g3,g4,g5,g6,g7⟩ (fun hHeld=>?_)
              refine tkH 0 hHeld ?_;refine tkH 1 hHeld ?_;refine tkH 2 hHeld ?_;refine tkH 3 hHeld ?_;refine tkH 4 hHeld ?_;refine tkH 5 hHeld ?_;refine rdyH [6] ?_;refine rcH (fun K hK=>?_) AllReadyH.nil;go_simp
              refine hND1.mono ?_;rintro e w7 ⟨rfl,hb7⟩;have hb7':=aAF hb7;have hT7:=hbl.trans (hb7'.mono (by omega))
              obtain⟨p70,p71,t70,t71,t72,hbw7,hz7⟩:=BX w7 hT7;obtain⟨g70,g71,g72,g73,g74,g75,g76,g77⟩:=hcf w7 hbw7;refine hK.out _ _ ⟨t70,t71,t72,g70,g71,g72,g73,g74,g75,g76,g77⟩ (fun hHeld=>?_);clear hK K;try simp only[Act.put,sIA,sI0,sIS]
              refine tkH 7 hHeld ?_;refine tkH 8 hHeld ?_;refine tnH 9 hHeld ?_;refine tnH 10 hHeld ?_;refine tnH 11 hHeld ?_;refine tnH 12 hHeld ?_;refine tnH 13 hHeld ?_;refine tnH 14 hHeld ?_;refine tnH 15 hHeld ?_;refine tnH 16 hHeld ?_;refine tnH 17 hHeld ?_;refine tnH 18 hHeld ?_;refine tnH 19 hHeld ?_;refine tnH 20 hHeld ?_;refine tnH 21 hHeld ?_;refine tnH 22 hHeld ?_;refine tkH 23 hHeld ?_;refine wpAnyH_done (by kernel_rfl) ?_ _
              go_wp2_with fail
              go_ret
              exact⟨aBZ hcode.out.symm,by first| exact hbw7| exact hbw7.drew| exact aAQ hbw7 _⟩
             rw[y1] at hND1;cases y2:(fth (tth types at').fields k).far
             ·rw[y2] at hND1 g4 hcf;have hgood:Hid (aDJ (tth types at') (fth (tth types at').fields k)=true):=by show _=_;rw[HNF.out,y1,y2];rfl
              go_wp2_with fail
              refine wp_region_held_drew (S:=fun w'=>w'.cell? ⟨w.heap.size+1,0,none⟩=some (.string (tth types at').name)∧w'.cell? ⟨w.heap.size+1,1,none⟩=some (.string (tth types at').key)∧w'.cell? ⟨w.heap.size+1,2,none⟩=some (.slice (some ⟨fb,foff,none⟩) (tth types at').fields.length fc)∧w'.cell? ⟨fb,foff+k*8,none⟩=some (.string (fth (tth types at').fields k).name)∧w'.cell? ⟨fb,foff+k*8+1,none⟩=some (.string (fth (tth types at').fields k).of)∧w'.cell? ⟨fb,foff+k*8+2,none⟩=some (.bool (fth (tth types at').fields k).list)∧w'.cell? ⟨fb,foff+k*8+3,none⟩=some (.bool (fth (tth types at').fields k).must)∧w'.cell? ⟨fb,foff+k*8+4,none⟩=some (.bool false)∧w'.cell? ⟨fb,foff+k*8+5,none⟩=some (.bool (fth (tth types at').fields k).hidden)∧w'.cell? ⟨fb,foff+k*8+6,none⟩=some (.bool (fth (tth types at').fields k).shared)∧w'.cell? ⟨fb,foff+k*8+7,none⟩=some (.slice na (fth (tth types at').fields k).needs.length nc)) (by kernel_rfl) ⟨t0,t1,t2,g0,g1,g2,g3,g4,g5,g6,g7⟩ (fun hHeld=>?_)
              refine tkH 0 hHeld ?_;refine tkH 1 hHeld ?_;refine tkH 2 hHeld ?_;refine tkH 3 hHeld ?_;refine tkH 4 hHeld ?_;refine tkH 5 hHeld ?_;refine rdyH [6] ?_;refine rcH (fun K hK=>?_) AllReadyH.nil;go_simp
              refine hND1.mono ?_;rintro e w7 ⟨rfl,hb7⟩;have hb7':=aAF hb7;have hT7:=hbl.trans (hb7'.mono (by omega))
              obtain⟨p70,p71,t70,t71,t72,hbw7,hz7⟩:=BX w7 hT7;obtain⟨g70,g71,g72,g73,g74,g75,g76,g77⟩:=hcf w7 hbw7;refine hK.out _ _ ⟨t70,t71,t72,g70,g71,g72,g73,g74,g75,g76,g77⟩ (fun hHeld=>?_);clear hK K;try simp only[Act.put,sIA,sI0,sIS]
              refine tkH 7 hHeld ?_;refine tkH 8 hHeld ?_;refine tkH 9 hHeld ?_;refine tkH 10 hHeld ?_;refine tkH 11 hHeld ?_;refine tkH 12 hHeld ?_;refine tkH 13 hHeld ?_;refine tkH 14 hHeld ?_;refine tkH 15 hHeld ?_;refine tnH 16 hHeld ?_;refine tnH 17 hHeld ?_;refine tnH 18 hHeld ?_;refine tnH 19 hHeld ?_;refine tnH 20 hHeld ?_;refine tnH 21 hHeld ?_;refine tkH 22 hHeld ?_;refine tkH 23 hHeld ?_;refine wpAnyH_done (by kernel_rfl) ?_ _
              go_wp2_with fail
              go_roundw
              case rel=>exact⟨k+1,by omega,by go_num,by rw[aEZ,HP.out,hgood.out];rfl,by first| exact hT7| exact hT7.drew| exact aAQ hT7 _⟩
              case measure=>simp[intOf];omega
             ·rw[y2] at hND1 g4 hcf;go_wp2_with fail
              go_region_held3 (fun w'=>w'.cell? ⟨w.heap.size+1,0,none⟩=some (.string (tth types at').name)∧w'.cell? ⟨w.heap.size+1,1,none⟩=some (.string (tth types at').key)∧w'.cell? ⟨w.heap.size+1,2,none⟩=some (.slice (some ⟨fb,foff,none⟩) (tth types at').fields.length fc)∧w'.cell? ⟨fb,foff+k*8,none⟩=some (.string (fth (tth types at').fields k).name)∧w'.cell? ⟨fb,foff+k*8+1,none⟩=some (.string (fth (tth types at').fields k).of)∧w'.cell? ⟨fb,foff+k*8+2,none⟩=some (.bool (fth (tth types at').fields k).list)∧w'.cell? ⟨fb,foff+k*8+3,none⟩=some (.bool (fth (tth types at').fields k).must)∧w'.cell? ⟨fb,foff+k*8+4,none⟩=some (.bool true)∧w'.cell? ⟨fb,foff+k*8+5,none⟩=some (.bool (fth (tth types at').fields k).hidden)∧w'.cell? ⟨fb,foff+k*8+6,none⟩=some (.bool (fth (tth types at').fields k).shared)∧w'.cell? ⟨fb,foff+k*8+7,none⟩=some (.slice na (fth (tth types at').fields k).needs.length nc)) (go_keep)
               (first
                |(
                 go_at_call 103
                 refine hND1.mono ?_;rintro e w7 ⟨rfl,hb7⟩;have hb7':=aAF hb7;have hT7:=hbl.trans (hb7'.mono (by omega))
                 obtain⟨p70,p71,t70,t71,t72,hbw7,hz7⟩:=BX w7 hT7;obtain⟨g70,g71,g72,g73,g74,g75,g76,g77⟩:=hcf w7 hbw7))
              cases y3:(fth (tth types at').fields k).shared
              ·have hgood:Hid (aDJ (tth types at') (fth (tth types at').fields k)=true):=by show _=_;rw[HNF.out,y1,y2,y3];rfl
               go_wp2_with fail
               go_roundw
               case rel=>exact⟨k+1,by omega,by go_num,by rw[aEZ,HP.out,hgood.out];rfl,by first| exact hT7| exact hT7.drew| exact aAQ hT7 _⟩
               case measure=>simp[intOf];omega
              ·have hcode:Hid (aAM ⟨pname,types⟩ at'=5):=HBAD.out (by rw[HNF.out,y1,y2,y3];rfl)
               go_wp2_with fail
               go_ret
               exact⟨aBZ hcode.out.symm,by first| exact hbw7| exact hbw7.drew| exact aAQ hbw7 _⟩
            ·have hke:k=(tth types at').fields.length:=by omega
             have hcode:Hid (aAM ⟨pname,types⟩ at'=0):=by
              show _=_;rw[HC.out,if_neg (by rw[HN1.out];simp),if_neg (by rw[HN2.out];simp),if_neg (by rw[HN3.out];simp),if_neg (by rw[HN4.out];simp),<-hke,if_neg (by rw[HP.out];simp)]
             go_wp2_with fail
             go_ret
             exact⟨aBZ hcode.out.symm,hbw⟩
      ·have hcode:Hid (aAM ⟨pname,types⟩ at'=2):=by
        show _=_;rw[HC.out,if_neg (by rw[HN1.out];simp),if_pos]
        rw[HTW.out,aAR,decide_eq_false hx];rfl
       have hxn:(aA9 (fun i=>(tth types i).name.toList==(tth types at').name.toList) types.length !=(at':Int))=true:=by simpa using hx
       generalize aA9 (fun i=>(tth types i).name.toList==(tth types at').name.toList) types.length=ix at hIX1 hxn;clear hx;go_wp2_with (go_at_call 62;refine hIX1.mono ?_;rintro e w1 ⟨rfl,hb1⟩)
       all_goals
        go_ret
        exact⟨aBZ hcode.out.symm,hbw.trans (hb1.mono (by omega))⟩
  ·have HE2:Hid (aAO (tth types at')=false):=by
    show _=_;rw[HE.out];by_cases h0:0<(tth types at').fields.length
    ·have:¬(tth types at').fields.length<=8:=fun h=>hlen ⟨h0,h⟩;simp[this]
    ·simp[h0]
   have hcode:Hid (aAM ⟨pname,types⟩ at'=1):=by show _=_;rw[HC.out,if_pos HE2.out]
   have dd:(((tth types at').fields.length:Int)==0)=true∨(((tth types at').fields.length:Int)==0)=false∧decide ((8:Int)<((tth types at').fields.length:Int))=true:=by
    by_cases h0:(tth types at').fields.length=0
    ·left;simp;exact List.eq_nil_of_length_eq_zero h0
    ·right;refine⟨by simp;intro e;simp[e] at h0,decide_eq_true ?_⟩
     have:¬(tth types at').fields.length<=8:=fun h=>hlen ⟨by omega,h⟩
     omega
   clear hlen;rcases dd with d1| ⟨d1,d2⟩
   all_goals
    cases b1;all_goals
     first| (have hb3:=hb2 rfl;rw[hb3] at hN2;clear hb3)| skip
     clear hb2;go_enter Tryz.func73,Tryz.ntmps73
     go_wp2_with (first| (go_at_call_of 72 (Value.string (tth types at').name);refine(hN1 _).mono ?_;rintro e w' ⟨rfl,rfl⟩)| (go_at_call_of 72 (Value.string (tth types at').key);refine(hN2 _).mono ?_;rintro e w' ⟨rfl,rfl⟩))
     go_ret
     exact⟨aBZ hcode.out.symm,aA6 _ _ _⟩
 cases x2:(tth types at').key.toList.isEmpty
 ·cases x3:aBB (tth types at').key
  ·rw[x3] at hN2;have hcode:Hid (aAM ⟨pname,types⟩ at'=1):=by show _=_;rw[HC.out,if_pos (by rw[HNM.out,x2,x3];simp)]
   go_enter Tryz.func73,Tryz.ntmps73
   go_wp2_with (first| (go_at_call_of 72 (Value.string (tth types at').name);refine(hN1 _).mono ?_;rintro e w' ⟨rfl,rfl⟩)| (go_at_call_of 72 (Value.string (tth types at').key);refine(hN2 _).mono ?_;rintro e w' ⟨rfl,rfl⟩))
   go_ret
   exact⟨aBZ hcode.out.symm,aA6 _ _ _⟩
  ·exact long false x2 fun _=>x3
 ·exact long true x2 fun h=>by cases h
end Go.Proofs.YtcebpkeiaiiphaaGreatDoor
