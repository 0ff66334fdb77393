import Derived.Test.YtcebpkeiaiiphaaGreatDoorRC32
set_option linter.unusedSimpArgs false
set_option linter.unusedVariables false
namespace Go.Proofs.YtcebpkeiaiiphaaGreatDoor
open Go.RowKit Go.Maps
section
variable {w:World} {P:Nat->Prop} {B:Nat} {X:Su} {c:Nat} {V:Sv}
theorem aPW(h:SuL w P B X c V)(hP:∀b,P b->b<B)(hB:B<=w.heap.size)(hc:c<=100000)(pa:Option Addr)(pl pc:Nat)(nm need:ByteArray)(bs bn:Nat)(hbs:w.heap[bs]?=some (.cells (V.cells (.slice pa pl pc)) 146 (0,0)))(hbn:w.cell? ⟨bn,0,none⟩=some (.string nm)):
  Calls Tryz.prog 173 #[.string need,.pointer (some ⟨bs,0,none⟩),.pointer (some ⟨bn,0,none⟩)] w fun e w'=>e=.returned (.bool (aBL (X.sd nm need)))∧Below w.heap.size w w':=by
 have HN:=aA0 (aHV h hP hB hc pa pl pc nm need);obtain⟨p1,r1,k1,p2,r2,k2,p3,r3,k3,p4,r4,k4,HV⟩:=h.form (.slice pa pl pc);rw[HV] at hbs HN;have d0:=(aA1 hbs 0 (by simp)).1
 have d1:=(aA1 hbs 1 (by simp)).1
 have d2:=(aA1 hbs 2 (by simp)).1
 have d3:=(aA1 hbs 3 (by simp)).1
 have d4:=(aA1 hbs 4 (by simp)).1
 have d5:=(aA1 hbs 5 (by simp)).1
 have d6:=(aA1 hbs 6 (by simp)).1
 have d7:=(aA1 hbs 7 (by simp)).1
 have d8:=(aA1 hbs 8 (by simp)).1
 simp only[List.getElem_toArray,List.getElem_cons_zero,List.getElem_cons_succ] at d0 d1 d2 d3 d4 d5 d6 d7 d8;clear h HV hbs;go_enter Tryz.func173,Tryz.ntmps173
 go_wp2_with fail
 refine HN.out.mono ?_;rintro e w1 ⟨rfl,hb1⟩;go_wp2_with fail
 go_ret
 exact⟨rfl,hb1⟩
theorem aO6(X:Su)(nm:ByteArray)(ns:List ByteArray):(ns.any fun need=>aBL (X.sd nm need))=decide (0<=aA9 (fun i=>aBL (X.sd nm (nth ns i))) ns.length):=by
 rcases aA8 (fun i=>aBL (X.sd nm (nth ns i))) ns.length with⟨h2,h3⟩| ⟨k,h2,hk,hq,-⟩
 ·rw[h2,decide_eq_false (by omega),List.any_eq_false]
  intro x hx;obtain⟨i,hi,e⟩:=List.mem_iff_getElem.1 hx;have h4:=h3 i hi;have e2:nth ns i=x:=by rw[<-e];simp[nth,List.getD_eq_getElem?_getD,hi]
  rw[e2] at h4;simpa using h4
 ·rw[h2,decide_eq_true (by omega),List.any_eq_true]
  exact⟨nth ns k,by simp[nth,List.getD_eq_getElem?_getD,hk],hq⟩
set_option maxHeartbeats 1600000 in
theorem aK9(h:SuL w P B X c V)(hP:∀b,P b->b<B)(hB:B<=w.heap.size)(hc:c<=100000)(pa:Option Addr)(pl pc:Nat)(nm:ByteArray)(bs bn:Nat)(hbs:w.heap[bs]?=some (.cells (V.cells (.slice pa pl pc)) 146 (0,0)))(hbn:w.cell? ⟨bn,0,none⟩=some (.string nm))(ns:List ByteArray)(a:Option Addr)(k:Nat)(hS:Strs w (·<w.heap.size) ns a):
  Calls Tryz.prog 177 #[.slice a ns.length k,.func (.func 173) #[] #[.pointer (some ⟨bs,0,none⟩),.pointer (some ⟨bn,0,none⟩)]] w fun e w'=>e=.returned (.int .i64 (aA9 (fun i=>aBL (X.sd nm (nth ns i))) ns.length))∧Below w.heap.size w w':=by
 have HS:=aA0 hS;have hmx:=hS.2.2;have hsl:=(Array.getElem?_eq_some_iff.1 hbs).1;have HH:=aA0 (fun W (hW:Below w.heap.size w W) need=>aPW (h.under hP hB hW) hP (Nat.le_trans hB hW.size) hc pa pl pc nm need bs bn ((hW.block bs hsl).trans hbs) ((hW.cell (aAA hbn)).trans hbn));clear h hS hbs hbn;obtain⟨n,HN⟩:∃n,Hid (n=ns.length):=⟨_,aA0 rfl⟩;rw[<-HN.out] at hmx ⊢;unfold maxLen at hmx;go_enter Tryz.func177,Tryz.ntmps177
 go_wp2_with fail
 go_loopw [8] (fun i wr=>∃k:Nat,k<=n∧i=.int .i64 k∧Hid (∀j,j<k->aBL (X.sd nm (nth ns j))=false)∧Below w.heap.size w wr) (fun i _=>n- (intOf i).toNat)
 case atStart=>exact⟨0,Nat.zero_le _,rfl,aA0 (fun j hj=>by omega),Below.refl _ _⟩
 case round=>
  obtain⟨k,hk,rfl,HQ,hb⟩:=hrel;obtain⟨w0,rfl⟩:∃x,x=wr:=⟨wr,rfl⟩;have zb:=hb.size;by_cases hlt:k<n
  case neg=>
   have e:k=n:=by omega
   subst e;have HE:=aA0 (aB3 (p:=fun i=>aBL (X.sd nm (nth ns i))) HQ.out);go_wp2_with fail
   go_ret
   exact⟨by rw[HE.out]<;>rfl,hb⟩
  have hki:(k:Int)<(n:Int):=by omega
  obtain⟨fb,fo,rfl,hfb,hcc⟩:=HS.out.1 (fun e=>by have:=HN.out;rw[e] at this;simp at this;omega)
  have x0:=(hb.cell (p:=⟨fb,fo+k,none⟩) hfb).trans (hcc k (by rw[<-HN.out];exact hlt))
  have HF:=aA0 (HH.out w0 hb (nth ns k));have HHK:Hid (aBL (X.sd nm (nth ns k))=true->aA9 (fun i=>aBL (X.sd nm (nth ns i))) n=(k:Nat)):=aA0 fun h=>aAX HQ.out h hlt;have HX:Hid (aBL (X.sd nm (nth ns k))=false->∀j,j<k+1->aBL (X.sd nm (nth ns j))=false):=aA0 fun h j hj=>by
   by_cases e:j=k
   ·subst e;exact h
   ·exact HQ.out j (by omega)
  clear hcc;generalize nth ns k=f at*;cases hq:aBL (X.sd nm f)
  ·rw[hq] at HF;have HX2:=aA0 (HX.out hq);clear hq;go_wp2_with fail
   refine HF.out.mono ?_;rintro e w1 ⟨rfl,hb1⟩;have hb01:=hb.trans (hb1.mono zb);go_wp2_with fail
   go_roundw
   case measure=>simp[intOf];omega
   case rel=>exact⟨k+1,by omega,by go_num,HX2,hb01⟩
  ·rw[hq] at HF;have HE:=aA0 (HHK.out hq);clear hq;go_wp2_with fail
   refine HF.out.mono ?_;rintro e w1 ⟨rfl,hb1⟩;have hb01:=hb.trans (hb1.mono zb);go_wp2_with fail
   go_ret
   exact⟨by rw[HE.out]<;>rfl,hb01⟩
theorem aHJ(h:SuL w P B X c V)(hP:∀b,P b->b<B)(hB:B<=w.heap.size)(hc:c<=100000)(pa:Option Addr)(pl pc:Nat)(nm:ByteArray)(bs bn:Nat)(hbs:w.heap[bs]?=some (.cells (V.cells (.slice pa pl pc)) 146 (0,0)))(hbn:w.cell? ⟨bn,0,none⟩=some (.string nm))(ns:List ByteArray)(a:Option Addr)(k:Nat)(hS:Strs w (·<w.heap.size) ns a):
  Calls Tryz.prog 172 #[.slice a ns.length k,.func (.func 173) #[] #[.pointer (some ⟨bs,0,none⟩),.pointer (some ⟨bn,0,none⟩)]] w fun e w'=>e=.returned (.bool (ns.any fun need=>aBL (X.sd nm need)))∧Below w.heap.size w w':=by
 have HI:=aA0 (aK9 h hP hB hc pa pl pc nm bs bn hbs hbn ns a k hS);have HE:=aA0 (aO6 X nm ns);clear h hS hbs hbn;generalize aA9 (fun i=>aBL (X.sd nm (nth ns i))) ns.length=q at*;by_cases h0:0<=q
 ·have HD:=aA0 (decide_eq_true h0);have h1:q≥ 0:=h0;go_enter Tryz.func172,Tryz.ntmps172
  go_wp2_with (go_at_call 177;refine HI.out.mono ?_;rintro e w1 ⟨rfl,hb1⟩)
  go_ret
  exact⟨aA4 (by rw[HE.out,HD.out]),hb1⟩
 ·have HD:=aA0 (decide_eq_false h0);have h1:¬q≥ 0:=h0;go_enter Tryz.func172,Tryz.ntmps172
  go_wp2_with (go_at_call 177;refine HI.out.mono ?_;rintro e w1 ⟨rfl,hb1⟩)
  go_ret
  exact⟨aA4 (by rw[HE.out,HD.out]),hb1⟩
set_option maxRecDepth 20000 in
set_option maxHeartbeats 1600000 in
theorem aMY(h:SuL w P B X c V)(hP:∀b,P b->b<B)(hB:B<=w.heap.size)(hc:c<=100000)(pa:Option Addr)(pl pc:Nat)(nm:ByteArray)(f:F)(na:Option Addr)(nc:Nat)(hS:Strs w (·<w.heap.size) f.needs na):
  Calls Tryz.prog 149 #[.agg (V.cells (.slice pa pl pc)),.string nm,.agg #[.string f.name,.string f.of,.bool f.list,.bool f.must,.bool f.far,.bool f.hidden,.bool f.shared,.slice na f.needs.length nc]] w fun e w'=>e=.returned (.bool (f.needs.any fun need=>aBL (X.sd nm need)))∧Below w.heap.size w w':=by
 obtain⟨p1,r1,k1,p2,r2,k2,p3,r3,k3,p4,r4,k4,HV⟩:=h.form (.slice pa pl pc);have HC:=aA0 (fun W (hW:Below w.heap.size w W) bs bn (q1:W.heap[bs]?=some (.cells (V.cells (.slice pa pl pc)) 146 (0,0))) (q2:W.cell? ⟨bn,0,none⟩=some (.string nm))=>aHJ (h.under hP hB hW) hP (Nat.le_trans hB hW.size) hc pa pl pc nm bs bn q1 q2 f.needs na nc ((hS.mono fun b hb=>hW.block b hb).sub fun b hb=>Nat.lt_of_lt_of_le hb hW.size));rw[HV];rw[HV] at HC;clear h hS HV;obtain⟨nl,HNL⟩:∃x,Hid (x=f.needs.length):=⟨_,aA0 rfl⟩;rw[<-HNL.out] at HC ⊢;have b1:=aA2 w (.cells #[.slice pa pl pc,.slice p1 r1 k1,.map (some V.m1),.slice p2 r2 k2,.map (some V.m2),.slice p3 r3 k3,.map (some V.m3),.slice p4 r4 k4,.map (some V.m4)] 146);have n1:=aA3 (w:=w) (N:=w.heap.size) #[.slice pa pl pc,.slice p1 r1 k1,.map (some V.m1),.slice p2 r2 k2,.map (some V.m2),.slice p3 r3 k3,.map (some V.m3),.slice p4 r4 k4,.map (some V.m4)] 146 rfl;have z1:(w.alloc (.cells #[.slice pa pl pc,.slice p1 r1 k1,.map (some V.m1),.slice p2 r2 k2,.map (some V.m2),.slice p3 r3 k3,.map (some V.m3),.slice p4 r4 k4,.map (some V.m4)] 146)).heap.size=w.heap.size+1:=by simp
 go_enter Tryz.func149,Tryz.ntmps149
 go_upto_region 1 with fail
 generalize w.alloc (.cells #[.slice pa pl pc,.slice p1 r1 k1,.map (some V.m1),.slice p2 r2 k2,.map (some V.m2),.slice p3 r3 k3,.map (some V.m3),.slice p4 r4 k4,.map (some V.m4)] 146)=w1 at*;have b2:=aA2 w1 (.cells #[.string nm] 9);have n2:=aA3 (w:=w1) (N:=w.heap.size+1) #[.string nm] 9 z1;have z2:(w1.alloc (.cells #[.string nm] 9)).heap.size=w.heap.size+2:=by simp[z1]
 have n12:=(b2.block w.heap.size (by omega)).trans n1
 generalize w1.alloc (.cells #[.string nm] 9)=w2 at*;have b3:=aA2 w2 (.cells #[.string f.name,.string f.of,.bool f.list,.bool f.must,.bool f.far,.bool f.hidden,.bool f.shared,.slice na nl nc] 80);have n3:=(aA1 (aA3 (w:=w2) (N:=w.heap.size+2) #[.string f.name,.string f.of,.bool f.list,.bool f.must,.bool f.far,.bool f.hidden,.bool f.shared,.slice na nl nc] 80 z2) 7 (by simp)).1
 simp only[List.getElem_toArray,List.getElem_cons_zero,List.getElem_cons_succ] at n3;have n13:=(b3.block w.heap.size (by omega)).trans n12
 have n23:=(b3.block (w.heap.size+1) (by omega)).trans n2
 have bA:Below w.heap.size w (w2.alloc (.cells #[.string f.name,.string f.of,.bool f.list,.bool f.must,.bool f.far,.bool f.hidden,.bool f.shared,.slice na nl nc] 80)):=(b1.trans (b2.mono (by omega))).trans (b3.mono (by omega))
 generalize w2.alloc (.cells #[.string f.name,.string f.of,.bool f.list,.bool f.must,.bool f.far,.bool f.hidden,.bool f.shared,.slice na nl nc] 80)=w3 at*;have HCC:=aA0 (HC.out w3 bA w.heap.size (w.heap.size+1) n13 (aA1 n23 0 (by simp)).1)
 have HBA:=aA0 bA;clear b1 b2 b3 n1 n2 n12 n13 n23 z1 z2 bA HC;go_wp2_with fail
 refine HCC.out.mono ?_;rintro e w4 ⟨rfl,hb4⟩;have HBE:=aA0 (HBA.out.trans (hb4.mono HBA.out.size));clear hb4;go_wp2_with fail
 go_ret
 exact⟨rfl,HBE.out⟩
set_option maxHeartbeats 1600000 in
theorem aOA(h:SuL w P B X c V)(hP:∀b,P b->b<B)(hB:B<=w.heap.size)(hc:c<=100000)(pa:Option Addr)(pl pc:Nat)(nm n:ByteArray):
  Calls Tryz.prog 147 #[.agg (V.cells (.slice pa pl pc)),.agg #[.string nm,.string n]] w fun e w'=>e=.returned (.int .i64 (aBP (X.sd nm n):Nat))∧Below w.heap.size w w':=by
 obtain⟨p1,r1,k1,p2,r2,k2,p3,r3,k3,p4,r4,k4,HV⟩:=h.form (.slice pa pl pc);rw[HV];obtain⟨a,k,hs,hlk⟩:=h.flds hP hB hc nm n;have bX:=aA6 w (.cells #[.slice pa pl pc,.slice p1 r1 k1,.map (some V.m1),.slice p2 r2 k2,.map (some V.m2),.slice p3 r3 k3,.map (some V.m3),.slice p4 r4 k4,.map (some V.m4)] 146) (.cells #[.string nm,.string n] 153);have hlk0:=hlk _ bX;simp only[fk] at hlk0;have HS:=aA0 hs;have hle:=h.le.sd nm n;generalize X.sd nm n=L at*;clear h hlk HV hs;obtain⟨ll,HL⟩:∃x,Hid (x=L.length):=⟨_,aA0 rfl⟩;rw[<-HL.out] at hlk0 hle;have HCN:Hid (∀k,k<ll->aBP (L.take (k+1))=aBP (L.take k)+if(fth L k).shared=true then 1 else 0):=aA0 fun k hk=>by
  rw[HL.out] at hk;unfold aBP;rw[List.take_add_one,List.countP_append,List.getElem?_eq_getElem hk];have e:fth L k=L[k]:=by simp[fth,List.getD_eq_getElem?_getD,hk]
  rw[e];show _+List.countP _ [L[k]]=_;rw[List.countP_cons,List.countP_nil,Nat.zero_add]
 have HCL:Hid (∀k,aBP (L.take k)<=k):=aA0 fun k=>Nat.le_trans List.countP_le_length (by simp;omega)
 have HC0:Hid (aBP (L.take 0)=0):=aA0 rfl;have HCE:Hid (aBP (L.take ll)=aBP L):=aA0 (by rw[HL.out,List.take_length])
 go_enter Tryz.func147,Tryz.ntmps147
 go_wp2_with fail
 have HBX:=aA0 bX;clear bX hlk0;generalize ((w.alloc (.cells #[.slice pa pl pc,.slice p1 r1 k1,.map (some V.m1),.slice p2 r2 k2,.map (some V.m2),.slice p3 r3 k3,.map (some V.m3),.slice p4 r4 k4,.map (some V.m4)] 146)).alloc (.cells #[.string nm,.string n] 153))=w1 at*;go_loopw [5,14] (fun y i wr=>∃k q:Nat,k<=ll∧i=.int .i64 k∧y=.int .i64 q∧Hid (q=aBP (L.take k))∧Hid (Below w.heap.size w wr)) (fun _ i _=>ll- (intOf i).toNat)
 case atStart=>exact⟨0,0,Nat.zero_le _,rfl,rfl,aA0 HC0.out.symm,HBX⟩
 case round=>
 obtain⟨k,q,hk,rfl,rfl,HQ,HB⟩:=hrel;obtain⟨w2,rfl⟩:∃x,x=wr:=⟨wr,rfl⟩;have hqk:q<=k:=by rw[HQ.out];exact HCL.out k
 by_cases hlt:k<ll
 ·have hki:(k:Int)<(ll:Int):=by omega
  obtain⟨fb,fo,na,nc,rfl,-,hcc⟩:=HS.out.at (Nat.le_refl _) k (by rw[<-HL.out];exact hlt)
  obtain⟨x0,x1,x2,x3,x4,x5,x6,x7⟩:=hcc w2 HB.out;have hcn:=HCN.out k hlt;have b3:∀o,Below w.heap.size w (w2.alloc o):=fun o=>HB.out.trans ((aA2 w2 o).mono HB.out.size);have HB3:=aA0 b3;clear hcc b3;generalize fth L k=f at*;cases hf:f.shared
  ·rw[hf] at x6 hcn;have HQ2:Hid (q=aBP (L.take (k+1))):=aA0 (by rw[hcn,HQ.out];rfl)
   clear hcn hf;go_wp2_with fail
   exact⟨⟨k+1,q,by omega,by go_num,rfl,HQ2,aA0 (HB3.out _)⟩,by simp[intOf];omega⟩
  ·rw[hf] at x6 hcn;have HQ2:Hid (q+1=aBP (L.take (k+1))):=aA0 (by rw[hcn,HQ.out];rfl)
   clear hcn hf;go_wp2_with fail
   exact⟨⟨k+1,q+1,by omega,by go_num,by go_num,HQ2,aA0 (HB3.out _)⟩,by simp[intOf];omega⟩
 ·have hki:¬(k:Int)<(ll:Int):=by omega
  have HE:Hid (q=aBP L):=aA0 (by rw[HQ.out,show k=ll by omega];exact HCE.out)
  go_wp2_with fail
  go_ret
  exact⟨by rw[<-HE.out]<;>rfl,HB.out⟩
set_option maxRecDepth 20000 in
set_option maxHeartbeats 3200000 in
theorem aNU(h:SuL w P B X c V)(hP:∀b,P b->b<B)(hB:B<=w.heap.size)(hc:c<=100000)(pa:Option Addr)(pl pc:Nat)(nm:ByteArray)(f:F)(na:Option Addr)(nc:Nat):
  Calls Tryz.prog 116 #[.agg (V.cells (.slice pa pl pc)),.string nm,.agg #[.string f.name,.string f.of,.bool f.list,.bool f.must,.bool f.far,.bool f.hidden,.bool f.shared,.slice na f.needs.length nc]] w fun e w'=>e=.returned (.bool (aBH f (X.sd nm f.name)))∧Below w.heap.size w w':=by
 obtain⟨p1,r1,k1,p2,r2,k2,p3,r3,k3,p4,r4,k4,HV⟩:=h.form (.slice pa pl pc);rw[HV];obtain⟨a,k,hs,hlk⟩:=h.flds hP hB hc nm f.name;have HS:=aA0 hs;have hle:=h.le.sd nm f.name;generalize X.sd nm f.name=L at*;obtain⟨nl,HNL⟩:∃x,Hid (x=f.needs.length):=⟨_,aA0 rfl⟩;rw[<-HNL.out];have bX:=aA6 w (.cells #[.slice pa pl pc,.slice p1 r1 k1,.map (some V.m1),.slice p2 r2 k2,.map (some V.m2),.slice p3 r3 k3,.map (some V.m3),.slice p4 r4 k4,.map (some V.m4)] 146) (.cells #[.string f.name,.string f.of,.bool f.list,.bool f.must,.bool f.far,.bool f.hidden,.bool f.shared,.slice na nl nc] 80);have n2:((w.alloc (.cells #[.slice pa pl pc,.slice p1 r1 k1,.map (some V.m1),.slice p2 r2 k2,.map (some V.m2),.slice p3 r3 k3,.map (some V.m3),.slice p4 r4 k4,.map (some V.m4)] 146)).alloc (.cells #[.string f.name,.string f.of,.bool f.list,.bool f.must,.bool f.far,.bool f.hidden,.bool f.shared,.slice na nl nc] 80)).heap[w.heap.size+1]?=some (.cells #[.string f.name,.string f.of,.bool f.list,.bool f.must,.bool f.far,.bool f.hidden,.bool f.shared,.slice na nl nc] 80 (0,0)):=aA3 _ _ (by simp)
 have zX:w.heap.size+2<=((w.alloc (.cells #[.slice pa pl pc,.slice p1 r1 k1,.map (some V.m1),.slice p2 r2 k2,.map (some V.m2),.slice p3 r3 k3,.map (some V.m3),.slice p4 r4 k4,.map (some V.m4)] 146)).alloc (.cells #[.string f.name,.string f.of,.bool f.list,.bool f.must,.bool f.far,.bool f.hidden,.bool f.shared,.slice na nl nc] 80)).heap.size:=by simp
 have hlk0:=hlk _ bX;simp only[fk] at hlk0;clear h hlk HV hs;obtain⟨ll,HL⟩:∃x,Hid (x=L.length):=⟨_,aA0 rfl⟩;rw[<-HL.out] at hlk0 hle;have HAL:Hid (∀k,k<ll->((fth L k).of.toList==f.of.toList&&((fth L k).list==f.list)&&((fth L k).must==f.must))=false->aBH f L=false):=aA0 fun k hk hq=>by
  unfold aBH;rw[List.all_eq_false];rw[HL.out] at hk;refine⟨fth L k,by simp[fth,List.getD_eq_getElem?_getD,hk],by rw[hq];decide⟩
 have HAT:Hid ((∀k,k<ll->((fth L k).of.toList==f.of.toList&&((fth L k).list==f.list)&&((fth L k).must==f.must))=true)->aBH f L=true):=aA0 fun hq=>by
  unfold aBH;rw[List.all_eq_true];intro x hx;obtain⟨i,hi,e⟩:=List.mem_iff_getElem.1 hx;have h1:=hq i (by rw[HL.out];exact hi)
  have e2:fth L i=x:=by rw[<-e];simp[fth,List.getD_eq_getElem?_getD,hi]
  rw[e2] at h1;exact h1
 go_enter Tryz.func116,Tryz.ntmps116
 go_wp2_with fail
 have HBX:=aA0 bX;have HN2:=aA0 n2;have HZX:=aA0 zX;clear bX hlk0 n2 zX;generalize ((w.alloc (.cells #[.slice pa pl pc,.slice p1 r1 k1,.map (some V.m1),.slice p2 r2 k2,.map (some V.m2),.slice p3 r3 k3,.map (some V.m3),.slice p4 r4 k4,.map (some V.m4)] 146)).alloc (.cells #[.string f.name,.string f.of,.bool f.list,.bool f.must,.bool f.far,.bool f.hidden,.bool f.shared,.slice na nl nc] 80))=w1 at*;go_loopw [18] (fun i wr=>∃k:Nat,k<=ll∧i=.int .i64 k∧Hid (∀j,j<k->((fth L j).of.toList==f.of.toList&&((fth L j).list==f.list)&&((fth L j).must==f.must))=true)∧Hid (Below (w.heap.size+2) w1 wr)) (fun i _=>ll- (intOf i).toNat)
 case atStart=>exact⟨0,Nat.zero_le _,rfl,aA0 (fun j hj=>by omega),aA0 (Below.refl _ _)⟩
 case round=>
 obtain⟨k,hk,rfl,HQ,HB⟩:=hrel;obtain⟨w2,rfl⟩:∃x,x=wr:=⟨wr,rfl⟩;have HBW:Hid (Below w.heap.size w w2):=aA0 (HBX.out.trans (HB.out.mono (by omega)))
 by_cases hlt:k<ll
 ·have hki:(k:Int)<(ll:Int):=by omega
  obtain⟨fb,fo,ma,mc,rfl,-,hcc⟩:=HS.out.at (Nat.le_refl _) k (by rw[<-HL.out];exact hlt)
  obtain⟨x0,x1,x2,x3,x4,x5,x6,x7⟩:=hcc w2 HBW.out;have zX:=HZX.out;have z2:=HB.out.size;have hbf:=(HB.out.block (w.heap.size+1) (by omega)).trans HN2.out
  have b3:∀o,Below (w.heap.size+2) w1 (w2.alloc o)∧Below w.heap.size w (w2.alloc o):=fun o=>⟨HB.out.trans ((aA2 w2 o).mono (by omega)),HBW.out.trans ((aA2 w2 o).mono HBW.out.size)⟩
  have HB3:=aA0 b3;have y1:∀o,(w2.alloc o).cell? ⟨w.heap.size+1,1,none⟩=some (.string f.of)∧(w2.alloc o).cell? ⟨w.heap.size+1,2,none⟩=some (.bool f.list)∧(w2.alloc o).cell? ⟨w.heap.size+1,3,none⟩=some (.bool f.must):=fun o=>by
   have h:=((aA2 w2 o).block (w.heap.size+1) (by omega)).trans hbf
   exact⟨(aA1 h 1 (by simp)).1,(aA1 h 2 (by simp)).1,(aA1 h 3 (by simp)).1⟩
  obtain⟨gl,HGL⟩:∃x,Hid (x=(fth L k).needs.length):=⟨_,aA0 rfl⟩;rw[<-HGL.out] at x7;have y:=y1 (.cells #[.string (fth L k).name,.string (fth L k).of,.bool (fth L k).list,.bool (fth L k).must,.bool (fth L k).far,.bool (fth L k).hidden,.bool (fth L k).shared,.slice ma gl mc] 80);have HNO:=HAL.out k hlt;have HYES:Hid (((fth L k).of.toList==f.of.toList&&((fth L k).list==f.list)&&((fth L k).must==f.must))=true->∀j,j<k+1->((fth L j).of.toList==f.of.toList&&((fth L j).list==f.list)&&((fth L j).must==f.must))=true):=aA0 fun h j hj=>by
   by_cases e:j=k
   ·subst e;exact h
   ·exact HQ.out j (by omega)
  clear hcc b3 hbf y1;obtain⟨y1,y2,y3⟩:=y;generalize fth L k=g at*;obtain⟨gn,go,gli,gm,gf,gh,gs,gd⟩:=g;obtain⟨fn,fof,fli,fm,ff,fh,fs,fd⟩:=f;simp only at x0 x1 x2 x3 x4 x5 x6 x7 y1 y2 y3 HNO HYES ⊢;replace HNO:=aA0 HNO
  obtain⟨q,hq⟩:∃q,q=(go.toList==fof.toList):=⟨_,rfl⟩;rw[<-hq] at HNO HYES;cases q<;>cases gli<;>cases fli<;>cases gm<;>cases fm;all_goals
   replace hq:=hq.symm
   first
    |(have HF:=aA0 (HNO.out rfl)
      go_wp2_with fail
      go_ret
      exact⟨by rw[HF.out]<;>rfl,(HB3.out _).2⟩)
    |(have HT:=aA0 (HYES.out rfl)
      go_wp2_with fail
      go_roundw
      case rel=>exact⟨k+1,by omega,by go_num,HT,aA0 (HB3.out _).1⟩
      case measure=>simp[intOf];omega)
 ·have hki:¬(k:Int)<(ll:Int):=by omega
  have HE:=aA0 (HAT.out fun j hj=>HQ.out j (by omega))
  go_wp2_with fail
  go_ret
  exact⟨by rw[HE.out]<;>rfl,HBW.out⟩
end
end Go.Proofs.YtcebpkeiaiiphaaGreatDoor
