import Derived.Test.YtcebpkeiaiiphaaGreatDoorRC7
set_option linter.unusedSimpArgs false
set_option linter.unusedVariables false
namespace Go.Proofs.YtcebpkeiaiiphaaGreatDoor
open Go.RowKit
set_option maxHeartbeats 32000000 in
theorem aLX(t:T)(f:F)(w:World)(v u:Value)(B:Nat)(hR:TRep w (·<B) t v)(hF:FRep w (·<B) f u)(hB:B<=w.heap.size)(h0:0<f.needs.length)(hh:aET t f=true):
  Calls Tryz.prog 103 #[v,u] w fun e w'=>e=.returned (.bool (aE7 t f))∧Below w.heap.size w w':=by
 have hb:Hid (aE7 t f=aFI t f f.needs.length):=by show _=_;simp only[aE7,hh];simp
 have hR':=hR;obtain⟨tn,key,fields⟩:=t;obtain⟨fa,fc,rfl,hK,-⟩:=hR;obtain⟨na,nc,rfl,hS,hcap,-⟩:=hF;obtain⟨name,of,l,m,fr,hi,sh,needs⟩:=f;simp only at h0 hS hcap hK;have h0':(0:Int)<(needs.length:Int):=by omega
 simp only[aET,isT,Bool.and_eq_true,Bool.not_eq_true'] at hh;obtain⟨⟨⟨⟨⟨h1,rfl⟩,rfl⟩,rfl⟩,h2⟩,h3⟩:=hh;obtain⟨hS1,hS2,hS3⟩:=hS;unfold maxLen at hS3;obtain⟨nb,noff,rfl,hnb,hnc⟩:=hS1 (by intro e;simp[e] at h0)
 clear hS1;have h4:=hK.1;go_enter Tryz.func103,Tryz.ntmps103
 go_wp2_with fail
 go_loopw [5,6] (fun i _ wr=>∃k:Nat,k<=needs.length∧i=.int .i64 k∧aFI ⟨tn,key,fields⟩ ⟨name,of,false,false,false,hi,sh,needs⟩ k=true∧Below w.heap.size w wr∧w.heap.size+1<wr.heap.size∧
   wr.cell? ⟨w.heap.size,0,none⟩=some (.string tn)∧wr.cell? ⟨w.heap.size,1,none⟩=some (.string key)∧wr.cell? ⟨w.heap.size,2,none⟩=some (.slice fa fields.length fc)∧wr.cell? ⟨w.heap.size+1,7,none⟩=some (.slice (some ⟨nb,noff,none⟩) needs.length nc)) (fun i _ _=>needs.length- (intOf i).toNat)
 case atStart=>exact⟨0,Nat.zero_le _,rfl,rfl,aA6 _ _ _,by simp,by simp,by simp,by simp,by simp⟩
 case round=>
  obtain⟨k,hk,rfl,hp,hbel,hsz,hx0,hx1,hx2,hx7⟩:=hrel;have HP:Hid (aFI ⟨tn,key,fields⟩ ⟨name,of,false,false,false,hi,sh,needs⟩ k=true):=hp;clear hp;by_cases hlt:k<needs.length
  case neg=>
   go_wp2_with fail
   go_ret
   have e:k=needs.length:=by omega
   exact⟨aA4 (by rw[hb.out];rw[<-e];exact HP.out.symm),hbel⟩
  have hki:(k:Int)<(needs.length:Int):=by omega
  have hnk:∀w1,Below w.heap.size w w1->w1.cell? ⟨nb,noff+k,none⟩=some (.string (nth needs k)):=fun w1 hb=>(hb.cell (p:=⟨nb,noff+k,none⟩) (by show nb<_;omega)).trans (hnc k hlt)
  have hnkr:=hnk wr hbel;have hcall:∀wx,Below w.heap.size w wx->w.heap.size<=wx.heap.size->Calls Tryz.prog 63 #[.agg #[.string tn,.string key,.slice fa fields.length fc],.string (nth needs k)] wx fun e w'=>e=.returned (.int .i64 (aAB ⟨tn,key,fields⟩ (nth needs k)))∧Below wx.heap.size wx w':=fun wx hbx hsx=>
   aD3 ⟨tn,key,fields⟩ wx B _ _ (hR'.under (hbx.mono hB)) (by omega)
  have hsb:w.heap.size<=wr.drew.heap.size:=by have:=hbel.size;simpa using this
  have hfin:Hid (aDB ⟨tn,key,fields⟩ ⟨name,of,false,false,false,hi,sh,needs⟩ k=false->aE7 ⟨tn,key,fields⟩ ⟨name,of,false,false,false,hi,sh,needs⟩=false):=fun h=>by
   rw[hb.out];exact aMP _ _ _ k hlt h
  rcases aA8 (fun i=>(fth fields i).name.toList==(nth needs k).toList) fields.length with⟨hix,-⟩| ⟨g,hix,hglt,-,-⟩
  ·have hix':aAB ⟨tn,key,fields⟩ (nth needs k)=-1:=hix;have hbad:Hid (aDB ⟨tn,key,fields⟩ ⟨name,of,false,false,false,hi,sh,needs⟩ k=false):=by
    show _=_;simp only[aDB,hix'];rfl
   rw[hix'] at hcall;clear hix hix';go_wp2_with fail
   go_region_with (
    go_at_call 63
    refine(hcall _ hbel.drew hsb).mono ?_;rintro e w1 ⟨rfl,hb1⟩;have hb1':=aAF hb1;have hbw:Below w.heap.size w w1:=hbel.trans (hb1'.mono hbel.size))
   all_goals
    go_wp2_with fail
    simp only[List.getElem_toArray,List.getElem_cons_succ,List.getElem_cons_zero,Act.put,sIA,sIS,sI0];go_quiet (fail)
    go_wp2_with fail
    go_ret
    exact⟨aA4 (hfin.out hbad.out).symm,aAQ hbw _⟩
  ·have hix':aAB ⟨tn,key,fields⟩ (nth needs k)=(g:Int):=hix;rw[hix'] at hcall;obtain⟨-,C,hA,hr⟩:=hK;obtain⟨b,off,rfl,hbB,hc⟩:=hA (by omega)
   have hcg:=hc g hglt;obtain⟨-,e1,e2,-,-,-,-,gna,gnc,e7,-⟩:=(hr g hglt).parts;have hat:Hid (aDB ⟨tn,key,fields⟩ ⟨name,of,false,false,false,hi,sh,needs⟩ k=(aEA (fth fields g)&&(k==0||Op.bytesLess (nth needs (k- 1)).toList (nth needs k).toList))):=by
    show _=_;simp only[aDB,hix'];simp
   clear hix hix' hA hr hc;generalize fth fields g=G at*;obtain⟨gn,gof,gl,gm,gf,gh,gs,gneeds⟩:=G;simp only at e1 e2 e7;have hgi:(g:Int)<(fields.length:Int):=by omega
   have hg0:decide ((g:Int)<0)=false:=by simp
   have hcells:∀w1,Below w.heap.size w w1->(w1.cell? ⟨b,off+g*8+1,none⟩=some (.string gof)∧w1.cell? ⟨b,off+g*8+2,none⟩=some (.bool gl)∧w1.cell? ⟨b,off+g*8+7,none⟩=some (.slice gna gneeds.length gnc)):=fun w1 hb=>by
    have hx:∀j,j<8->w1.cell? ⟨b,off+g*8+j,none⟩=some (C g j):=fun j hj=>(hb.cell (p:=⟨b,off+g*8+j,none⟩) (by show b<_;omega)).trans (hcg j hj)
    have x1:=hx 1 (by omega);have x2:=hx 2 (by omega);have x7:=hx 7 (by omega)
    rw[e1] at x1;rw[e2] at x2;rw[e7] at x7;exact⟨x1,x2,x7⟩
   clear hcg e1 e2 e7;by_cases hA:0<(gneeds.length:Int)
   case pos=>
    have hA1:decide (0<(gneeds.length:Int))=true:=by simpa using hA
    have hA2:decide (0<gneeds.length)=true:=by simpa using hA
    have hA3:0<gneeds.length:=by omega
    have hbad:Hid (aDB ⟨tn,key,fields⟩ ⟨name,of,false,false,false,hi,sh,needs⟩ k=false):=by show _=_;rw[hat.out];simp only[aEA,hA1];rfl
    clear hat;go_wp2_with fail
    go_region_with (
     go_at_call 63
     refine(hcall _ hbel.drew hsb).mono ?_;rintro e w1 ⟨rfl,hb1⟩;have hb1':=aAF hb1;have hbw:Below w.heap.size w w1:=hbel.trans (hb1'.mono hbel.size);have z1:w.heap.size+1<w1.heap.size:=by have:=hb1'.size;omega
     have y0:w1.cell? ⟨w.heap.size,0,none⟩=some (.string tn):=(hb1'.cell (p:=⟨w.heap.size,0,none⟩) (by show w.heap.size<_;omega)).trans hx0
     have y1:w1.cell? ⟨w.heap.size,1,none⟩=some (.string key):=(hb1'.cell (p:=⟨w.heap.size,1,none⟩) (by show w.heap.size<_;omega)).trans hx1
     have y2:w1.cell? ⟨w.heap.size,2,none⟩=some (.slice (some ⟨b,off,none⟩) fields.length fc):=(hb1'.cell (p:=⟨w.heap.size,2,none⟩) (by show w.heap.size<_;omega)).trans hx2
     have y7:w1.cell? ⟨w.heap.size+1,7,none⟩=some (.slice (some ⟨nb,noff,none⟩) needs.length nc):=(hb1'.cell (p:=⟨w.heap.size+1,7,none⟩) (by show w.heap.size+1<_;omega)).trans hx7
     obtain⟨x1,x2,x7⟩:=hcells w1 hbw;have nk1:=hnk w1 hbw)
    all_goals
     go_wp2_with fail
     simp only[List.getElem_toArray,List.getElem_cons_succ,List.getElem_cons_zero,Act.put,sIA,sIS,sI0];go_quiet (fail)
     go_wp2_with fail
     go_ret
     exact⟨aA4 (hfin.out hbad.out).symm,aAQ hbw _⟩
   have hA1:decide (0<(gneeds.length:Int))=false:=by simpa using hA
   have hA2:decide (0<gneeds.length)=false:=by simpa using hA
   cases hof:(gof.toList==[105,110,116]);case false=>
    have hbad:Hid (aDB ⟨tn,key,fields⟩ ⟨name,of,false,false,false,hi,sh,needs⟩ k=false):=by show _=_;rw[hat.out];simp[aEA,isT,hof]
    clear hat;go_wp2_with fail
    go_region_with (
     go_at_call 63
     refine(hcall _ hbel.drew hsb).mono ?_;rintro e w1 ⟨rfl,hb1⟩;have hb1':=aAF hb1;have hbw:Below w.heap.size w w1:=hbel.trans (hb1'.mono hbel.size);have z1:w.heap.size+1<w1.heap.size:=by have:=hb1'.size;omega
     have y0:w1.cell? ⟨w.heap.size,0,none⟩=some (.string tn):=(hb1'.cell (p:=⟨w.heap.size,0,none⟩) (by show w.heap.size<_;omega)).trans hx0
     have y1:w1.cell? ⟨w.heap.size,1,none⟩=some (.string key):=(hb1'.cell (p:=⟨w.heap.size,1,none⟩) (by show w.heap.size<_;omega)).trans hx1
     have y2:w1.cell? ⟨w.heap.size,2,none⟩=some (.slice (some ⟨b,off,none⟩) fields.length fc):=(hb1'.cell (p:=⟨w.heap.size,2,none⟩) (by show w.heap.size<_;omega)).trans hx2
     have y7:w1.cell? ⟨w.heap.size+1,7,none⟩=some (.slice (some ⟨nb,noff,none⟩) needs.length nc):=(hb1'.cell (p:=⟨w.heap.size+1,7,none⟩) (by show w.heap.size+1<_;omega)).trans hx7
     obtain⟨x1,x2,x7⟩:=hcells w1 hbw;have nk1:=hnk w1 hbw)
    all_goals
     go_wp2_with fail
     simp only[List.getElem_toArray,List.getElem_cons_succ,List.getElem_cons_zero,Act.put,sIA,sIS,sI0];go_quiet (fail)
     go_wp2_with fail
     go_ret
     exact⟨aA4 (hfin.out hbad.out).symm,aAQ hbw _⟩
   cases gl;case true=>
    have hbad:Hid (aDB ⟨tn,key,fields⟩ ⟨name,of,false,false,false,hi,sh,needs⟩ k=false):=by show _=_;rw[hat.out];simp[aEA]
    clear hat;go_wp2_with fail
    go_region_with (
     go_at_call 63
     refine(hcall _ hbel.drew hsb).mono ?_;rintro e w1 ⟨rfl,hb1⟩;have hb1':=aAF hb1;have hbw:Below w.heap.size w w1:=hbel.trans (hb1'.mono hbel.size);have z1:w.heap.size+1<w1.heap.size:=by have:=hb1'.size;omega
     have y0:w1.cell? ⟨w.heap.size,0,none⟩=some (.string tn):=(hb1'.cell (p:=⟨w.heap.size,0,none⟩) (by show w.heap.size<_;omega)).trans hx0
     have y1:w1.cell? ⟨w.heap.size,1,none⟩=some (.string key):=(hb1'.cell (p:=⟨w.heap.size,1,none⟩) (by show w.heap.size<_;omega)).trans hx1
     have y2:w1.cell? ⟨w.heap.size,2,none⟩=some (.slice (some ⟨b,off,none⟩) fields.length fc):=(hb1'.cell (p:=⟨w.heap.size,2,none⟩) (by show w.heap.size<_;omega)).trans hx2
     have y7:w1.cell? ⟨w.heap.size+1,7,none⟩=some (.slice (some ⟨nb,noff,none⟩) needs.length nc):=(hb1'.cell (p:=⟨w.heap.size+1,7,none⟩) (by show w.heap.size+1<_;omega)).trans hx7
     obtain⟨x1,x2,x7⟩:=hcells w1 hbw;have nk1:=hnk w1 hbw)
    all_goals
     go_wp2_with fail
     simp only[List.getElem_toArray,List.getElem_cons_succ,List.getElem_cons_zero,Act.put,sIA,sIS,sI0];go_quiet (fail)
     go_wp2_with fail
     go_ret
     exact⟨aA4 (hfin.out hbad.out).symm,aAQ hbw _⟩
   have hnd:Hid (aEA ⟨gn,gof,false,gm,gf,gh,gs,gneeds⟩=true):=by show _=_;simp only[aEA,isT,hof,hA1];rfl
   by_cases hk0:k=0
   case pos=>
    have hkz:decide (0<(k:Int))=false:=by rw[hk0];rfl
    have hkz':decide (0<k)=false:=by rw[hk0];rfl
    have hgood:Hid (aDB ⟨tn,key,fields⟩ ⟨name,of,false,false,false,hi,sh,needs⟩ k=true):=by show _=_;rw[hat.out,hnd.out];simp[hk0]
    clear hat hk0;go_wp2_with fail
    go_region_with (
     go_at_call 63
     refine(hcall _ hbel.drew hsb).mono ?_;rintro e w1 ⟨rfl,hb1⟩;have hb1':=aAF hb1;have hbw:Below w.heap.size w w1:=hbel.trans (hb1'.mono hbel.size);have z1:w.heap.size+1<w1.heap.size:=by have:=hb1'.size;omega
     have y0:w1.cell? ⟨w.heap.size,0,none⟩=some (.string tn):=(hb1'.cell (p:=⟨w.heap.size,0,none⟩) (by show w.heap.size<_;omega)).trans hx0
     have y1:w1.cell? ⟨w.heap.size,1,none⟩=some (.string key):=(hb1'.cell (p:=⟨w.heap.size,1,none⟩) (by show w.heap.size<_;omega)).trans hx1
     have y2:w1.cell? ⟨w.heap.size,2,none⟩=some (.slice (some ⟨b,off,none⟩) fields.length fc):=(hb1'.cell (p:=⟨w.heap.size,2,none⟩) (by show w.heap.size<_;omega)).trans hx2
     have y7:w1.cell? ⟨w.heap.size+1,7,none⟩=some (.slice (some ⟨nb,noff,none⟩) needs.length nc):=(hb1'.cell (p:=⟨w.heap.size+1,7,none⟩) (by show w.heap.size+1<_;omega)).trans hx7
     obtain⟨x1,x2,x7⟩:=hcells w1 hbw;have nk1:=hnk w1 hbw)
    all_goals
     go_wp2_with fail
     simp only[List.getElem_toArray,List.getElem_cons_succ,List.getElem_cons_zero,Act.put,sIA,sIS,sI0];go_quiet (fail)
     go_wp2_with fail
     go_roundw
     case rel=>exact⟨k+1,by omega,by go_num,by rw[aGM,HP.out,hgood.out];rfl,aAQ hbw _,by simpa using z1,by simpa using y0,by simpa using y1,by simpa using y2,by simpa using y7⟩
     case measure=>simp[intOf];omega
   case neg=>
    obtain⟨k,rfl⟩:∃k',k=k'+1:=⟨k- 1,by omega⟩
    clear hk0;have hnp:∀w1,Below w.heap.size w w1->w1.cell? ⟨nb,noff+k,none⟩=some (.string (nth needs k)):=fun w1 hb=>(hb.cell (p:=⟨nb,noff+k,none⟩) (by show nb<_;omega)).trans (hnc k (by omega))
    have hkp:(k:Int)<(needs.length:Int):=by omega
    have hkz:decide (0<((k+1:Nat):Int))=true:=by simp
    cases hls:Op.bytesLess (nth needs k).toList (nth needs (k+1)).toList;case false=>
     have hbad:Hid (aDB ⟨tn,key,fields⟩ ⟨name,of,false,false,false,hi,sh,needs⟩ (k+1)=false):=by show _=_;rw[hat.out,hnd.out];simp[hls]
     clear hat;go_wp2_with fail
     go_region_with (
      go_at_call 63
      refine(hcall _ hbel.drew hsb).mono ?_;rintro e w1 ⟨rfl,hb1⟩;have hb1':=aAF hb1;have hbw:Below w.heap.size w w1:=hbel.trans (hb1'.mono hbel.size);have z1:w.heap.size+1<w1.heap.size:=by have:=hb1'.size;omega
      have y0:w1.cell? ⟨w.heap.size,0,none⟩=some (.string tn):=(hb1'.cell (p:=⟨w.heap.size,0,none⟩) (by show w.heap.size<_;omega)).trans hx0
      have y1:w1.cell? ⟨w.heap.size,1,none⟩=some (.string key):=(hb1'.cell (p:=⟨w.heap.size,1,none⟩) (by show w.heap.size<_;omega)).trans hx1
      have y2:w1.cell? ⟨w.heap.size,2,none⟩=some (.slice (some ⟨b,off,none⟩) fields.length fc):=(hb1'.cell (p:=⟨w.heap.size,2,none⟩) (by show w.heap.size<_;omega)).trans hx2
      have y7:w1.cell? ⟨w.heap.size+1,7,none⟩=some (.slice (some ⟨nb,noff,none⟩) needs.length nc):=(hb1'.cell (p:=⟨w.heap.size+1,7,none⟩) (by show w.heap.size+1<_;omega)).trans hx7
      obtain⟨x1,x2,x7⟩:=hcells w1 hbw;have nk1:=hnk w1 hbw;have np1:=hnp w1 hbw)
     all_goals
      go_wp2_with fail
      simp only[List.getElem_toArray,List.getElem_cons_succ,List.getElem_cons_zero,Act.put,sIA,sIS,sI0];go_quiet (fail)
      go_wp2_with fail
      go_ret
      exact⟨aA4 (hfin.out hbad.out).symm,aAQ hbw _⟩
    case true=>
     have hgood:Hid (aDB ⟨tn,key,fields⟩ ⟨name,of,false,false,false,hi,sh,needs⟩ (k+1)=true):=by show _=_;rw[hat.out,hnd.out];simp[hls]
     clear hat;go_wp2_with fail
     go_region_with (
      go_at_call 63
      refine(hcall _ hbel.drew hsb).mono ?_;rintro e w1 ⟨rfl,hb1⟩;have hb1':=aAF hb1;have hbw:Below w.heap.size w w1:=hbel.trans (hb1'.mono hbel.size);have z1:w.heap.size+1<w1.heap.size:=by have:=hb1'.size;omega
      have y0:w1.cell? ⟨w.heap.size,0,none⟩=some (.string tn):=(hb1'.cell (p:=⟨w.heap.size,0,none⟩) (by show w.heap.size<_;omega)).trans hx0
      have y1:w1.cell? ⟨w.heap.size,1,none⟩=some (.string key):=(hb1'.cell (p:=⟨w.heap.size,1,none⟩) (by show w.heap.size<_;omega)).trans hx1
      have y2:w1.cell? ⟨w.heap.size,2,none⟩=some (.slice (some ⟨b,off,none⟩) fields.length fc):=(hb1'.cell (p:=⟨w.heap.size,2,none⟩) (by show w.heap.size<_;omega)).trans hx2
      have y7:w1.cell? ⟨w.heap.size+1,7,none⟩=some (.slice (some ⟨nb,noff,none⟩) needs.length nc):=(hb1'.cell (p:=⟨w.heap.size+1,7,none⟩) (by show w.heap.size+1<_;omega)).trans hx7
      obtain⟨x1,x2,x7⟩:=hcells w1 hbw;have nk1:=hnk w1 hbw;have np1:=hnp w1 hbw)
     all_goals
      go_wp2_with fail
      simp only[List.getElem_toArray,List.getElem_cons_succ,List.getElem_cons_zero,Act.put,sIA,sIS,sI0];go_quiet (fail)
      go_wp2_with fail
      go_roundw
      case rel=>exact⟨(k+1)+1,by omega,by go_num,by rw[aGM,HP.out,hgood.out];rfl,aAQ hbw _,by simpa using z1,by simpa using y0,by simpa using y1,by simpa using y2,by simpa using y7⟩
      case measure=>simp[intOf];omega
end Go.Proofs.YtcebpkeiaiiphaaGreatDoor
