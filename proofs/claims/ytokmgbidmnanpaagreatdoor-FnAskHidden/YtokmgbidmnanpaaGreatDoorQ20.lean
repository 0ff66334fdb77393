import Derived.Test.YtokmgbidmnanpaaGreatDoorQ19
set_option linter.unusedSimpArgs false
set_option linter.unusedVariables false
namespace Go.Proofs.YtokmgbidmnanpaaGreatDoor
open Go.RowKit
theorem aM0(c:UInt8):(⟨#[c]⟩:ByteArray).toList=[c]:=by rw[ByteArray.toList_eq]
theorem aT1{f d:Nat}{ks:List Se}{k:Nat}{x:ByteArray}(hk:k≤ks.length)(hf:FitS (f+1) ks)(hok:okTo (f+1) d ks ks.length=true)(hc:aBX (f+1) ks ks.length≤24)(hx:x.toList=123::aCY (f+1) ks k):x.size≤673:=by
 have h1:=aGT (f+1) d ks k hk hf (aH2 f d ks hk hok)
 have h2:=aEH (f+1) ks hk
 have h3:=congrArg List.length hx
 rw[aC3] at h3
 simp at h3
 omega
set_option maxRecDepth 20000 in
set_option maxHeartbeats 6400000 in
theorem aNR:∀(f d:Nat) (ks:List Se) (w:World) (B:Nat) (ka:Option Addr) (kc:Nat),FitS f ks→aAA w (·<B) ks ka→B≤w.heap.size→okTo f d ks ks.length=true→aBX f ks ks.length≤24→
  Calls Tryz.prog 48 #[.slice ka ks.length kc] w fun e w'=>(∃x:ByteArray,e=.returned (.string x)∧x.toList=txtL f ks∧x.size≤674)∧Below w.heap.size w w':=by
 intro f
 induction f with
 |zero=>
  intro d ks w B ka kc hf hR hB hok hc
  have e:ks=[]:=hf
  subst e
  go_enter Tryz.func48,Tryz.ntmps48
  go_wp2_with fail
  go_loopw [3,4] (fun o i wr=>o=.string ⟨#[123]⟩∧i=.int .i64 0∧wr=w) (fun _ _ _=>0)
  case atStart=>exact⟨rfl,rfl,rfl⟩
  case round=>
   obtain⟨rfl,rfl,rfl⟩:=hrel
   go_wp2_with fail
   go_ret
   exact⟨⟨_,rfl,by rw[aC8,ByteArray.toList_eq,ByteArray.toList_eq];rfl,by show 2≤674;omega⟩,Below.refl _ _⟩
 |succ f IH=>
  intro d ks w B ka kc hf hR hB hok hc
  obtain⟨h72,C,hA,hr⟩:=id hR
  have HR:=aA0 hR
  clear hR
  go_enter Tryz.func48,Tryz.ntmps48
  go_wp2_with fail
  go_loopw [3,4] (fun o i wr=>∃(k:Nat) (x:ByteArray),k≤ks.length∧i=.int .i64 k∧o=.string x∧Hid (x.toList=123::aCY (f+1) ks k)∧Below w.heap.size w wr) (fun _ i _=>ks.length- (intOf i).toNat)
  case atStart=>exact⟨0,⟨#[123]⟩,Nat.zero_le _,rfl,rfl,aA0 (by rw[ByteArray.toList_eq];rfl),Below.refl _ _⟩
  case round=>
   obtain⟨k,x,hk,rfl,rfl,HX,hbel⟩:=hrel
   obtain⟨w0,rfl⟩:∃y,y=wr:=⟨wr,rfl⟩
   have hxz:=aT1 hk hf hok hc HX.out
   by_cases hlt:k<ks.length
   case neg=>
    have e:k=ks.length:=by omega
    subst e
    go_wp2_with fail
    go_ret
    exact⟨⟨_,rfl,by rw[aC8,HX.out,ByteArray.toList_eq ⟨#[125]⟩];rfl,by rw[ByteArray.size_append];show x.size+1≤_;omega⟩,hbel⟩
   obtain⟨kb,koff,rfl,hkB,hkc⟩:=hA (by omega)
   have hki:(k:Int)<(ks.length:Int):=by omega
   obtain⟨sa,sc,e0,e1,e2,e3,e4,hal,hnm,hKids⟩:=(hr k hlt).pieces
   have hcell:∀m,m<5→w0.cell? ⟨kb,koff+k*5+m,none⟩=some (C k m):=fun m hm=>(hbel.cell (p:=⟨kb,koff+k*5+m,none⟩) (by show kb<_;omega)).trans (hkc k hlt m hm)
   have q0:w0.cell? ⟨kb,koff+k*5,none⟩=some (.string (sth ks k).al):=e0▸hcell 0 (by omega)
   have q1:w0.cell? ⟨kb,koff+k*5+1,none⟩=some (.string (sth ks k).name):=e1▸hcell 1 (by omega)
   have q2:w0.cell? ⟨kb,koff+k*5+2,none⟩=some (.bool (sth ks k).one):=e2▸hcell 2 (by omega)
   have q3:w0.cell? ⟨kb,koff+k*5+3,none⟩=some (.int .i64 (sth ks k).id):=e3▸hcell 3 (by omega)
   have q4:w0.cell? ⟨kb,koff+k*5+4,none⟩=some (.slice sa (sth ks k).kids.length sc):=e4▸hcell 4 (by omega)
   have hfit:=hf k hlt
   have hok1:=aH2 f d ks (show k+1≤ks.length by omega) hok
   rw[aD9] at hok1
   simp only[Bool.and_eq_true] at hok1
   obtain⟨-,⟨hsel,-⟩,-,hokk⟩:=hok1
   have hcn:=aEH (f+1) ks (show k+1≤ks.length by omega)
   rw[aBN,aBD] at hcn
   have hIH:=fun W (hW:Below w.heap.size w W)=>IH (d+1) (sth ks k).kids W B sa sc hfit (hKids.under (hW.mono hB)) (by have:=hW.size;omega) hokk (by omega)
   simp only[txtL] at hIH
   have HIH:=aA0 hIH
   clear hIH
   have HT:=aA0 (aDQ f ks k)
   have hid9:=aOD hsel
   have hal8:(sth ks k).al.size≤8:=by
    simp only[selB,Bool.and_eq_true,Bool.or_eq_true] at hsel
    rcases hsel.1.1.2 with h| h
    ·have:=aC3 (sth ks k).al
     rw[List.isEmpty_iff] at h
     rw[h] at this
     simp at this
     omega
    ·exact aEG h.1
   have hnm8:(sth ks k).name.size≤8:=by
    simp only[selB,Bool.and_eq_true] at hsel
    exact aEG hsel.1.1.1
   have HHD:Hid (aHM (sth ks k)=(if(sth ks k).al.toList.isEmpty=true then[] else(sth ks k).al.toList++[58])++(sth ks k).name.toList++(if(sth ks k).one=true then 40::decL (sth ks k).id.toNat++[41] else[])):=rfl
   clear hok hokk hcn e0 e1 e2 e3 e4 hcell hsel hKids hfit IH hal hnm
   generalize sth ks k=s at*
   generalize aHM s=hdl at*
   obtain⟨idn,hidn⟩:∃n:Nat,s.id=n:=⟨s.id.toNat,by omega⟩
   rw[hidn] at q3 hid9 HHD
   simp only[Int.toNat_natCast] at HHD
   have HDEC:=aA0 (fun W=>aR9 idn idn W 5 (Nat.le_refl _) (by omega) (by omega) (by omega))
   generalize decL idn=dl at*
   generalize aCY f s.kids s.kids.length=tl at*
   generalize s.al=al at*
   generalize s.name=name at*
   generalize s.one=one at*
   clear hidn
   have hbox:Below w.heap.size w (w0.alloc (.cells #[.string al,.string name,.bool one,.int .i64 (idn:Int),.slice sa s.kids.length sc] 56)):=hbel.trans ((aA2 w0 _).mono hbel.size)
   have nB:=aA3 (w:=w0) #[.string al,.string name,.bool one,.int .i64 (idn:Int),.slice sa s.kids.length sc] 56 rfl
   have zB:w0.heap.size<(w0.alloc (.cells #[.string al,.string name,.bool one,.int .i64 (idn:Int),.slice sa s.kids.length sc] 56)).heap.size:=by simp
   have HKE:Hid (s.kids.isEmpty=!decide (0<s.kids.length)):=aA0 (by cases s.kids<;>simp)
   generalize s.kids.isEmpty=ke at*
   generalize s.kids.length=kl at*
   by_cases hk0:0<k
   all_goals
    have hki0:=hk0
    cases hae:al.toList.isEmpty
    all_goals
     cases one
     all_goals
      by_cases hkl:0<kl
      all_goals
       have HN:=aA0 (And.intro hk0 hkl)
       go_wp2_with (first
        |(
         go_at_call 88
         refine(HDEC.out _).mono ?_
         rintro e w1 ⟨⟨dx,rfl,hdx,hdz⟩,hbd⟩
         have nB1:=(hbd.block _ zB).trans nB
         obtain⟨v4,-⟩:=aA1 nB1 4 (by simp)
         have hb1:=hbox.trans (hbd.mono hbox.size)
         have HDX:=aA0 hdx
         clear hdx)
        |(
         go_at_call 48
         refine(HIH.out _ (by first| exact hb1| exact hbox)).mono ?_
         rintro e w2 ⟨⟨kx,rfl,hkx,hkz⟩,hbk⟩
         have HKX:=aA0 hkx
         clear hkx))
       go_roundw
       case measure=>simp[intOf];omega
       case rel=>
        refine⟨k+1,_,by omega,by go_num,rfl,aA0 ?_,by first| exact hb1.trans (hbk.mono hb1.size)| exact hbox.trans (hbk.mono hbox.size)| exact hb1| exact hbox⟩
        have hk':=HN.out.1
        have hkl':=HN.out.2
        rw[HT.out,HHD.out,HKE.out]
        by_cases hz:k=0
        all_goals
         first
          |omega
          |simp[aC8,aM0,HX.out,HDX.out,HKX.out,hae,hz,hkl']
          |simp[aC8,aM0,HX.out,HDX.out,hae,hz,hkl']
          |simp[aC8,aM0,HX.out,HKX.out,hae,hz,hkl']
          |simp[aC8,aM0,HX.out,hae,hz,hkl']
end Go.Proofs.YtokmgbidmnanpaaGreatDoor
