import Derived.Test.YtokmgbidmnanpaaGreatDoorQ9
import Derived.Test.YtokmgbidmnanpaaGreatDoorQ2
set_option linter.unusedSimpArgs false
set_option linter.unusedVariables false
namespace Go.Proofs.YtokmgbidmnanpaaGreatDoor
open Go.RowKit
def aggF(g:F)(na:Option Addr)(nc:Nat):Value:=.agg #[.string g.name,.string g.of,.bool g.list,.bool g.must,.bool g.far,.bool g.hidden,.bool g.shared,.slice na g.needs.length nc]
def aHO(nm:ByteArray)(s:Se)(sa:Option Addr)(sc:Nat)(g:F)(na:Option Addr)(nc:Nat)(known:Bool):Value:=
 .agg #[.string s.al,.string s.name,.bool s.one,.int .i64 s.id,.slice sa s.kids.length sc,.string nm,.string g.name,.string g.of,.bool g.list,.bool g.must,.bool g.far,.bool g.hidden,.bool g.shared,.slice na g.needs.length nc,.bool known]
def aCT(nm:ByteArray)(s:Se)(sa:Option Addr)(sc:Nat)(g:F)(na:Option Addr)(nc:Nat)(known:Bool):List Value:=
 [.string s.al,.string s.name,.bool s.one,.int .i64 s.id,.slice sa s.kids.length sc,.string nm,.string g.name,.string g.of,.bool g.list,.bool g.must,.bool g.far,.bool g.hidden,.bool g.shared,.slice na g.needs.length nc,.bool known]
theorem aDL{w:World}{N:Nat}{c:Array Value}{T:TypeId}(hb:w.heap[N]?=some (.cells c T (0,0)))(hc:c.size=15)(vs:List Value)(hv:vs.length=15)(W:World)(hW:W.heap[N]?=(puts w N 0 vs).heap[N]?):
  ∀j,j<15→W.cell? ⟨N,j,none⟩=some (vs.getD j undef):=by
 have hrow:w.rowIs N T 15 (fun i=>c[i]?.getD undef):=⟨c,hb,hc,fun i hi=>by simp[show i<c.size by omega]⟩
 obtain⟨G',hG,hG1,-⟩:=aID vs 0 hrow
 have hG2:W.rowIs N T 15 G':=hG.of_block hW
 intro j hj
 have:=hG1 j (by omega)
 rw[Nat.zero_add] at this
 rw[hG2.cell hj,this]
theorem aIO(FW:World)(tmps:Array Value)(N:Nat)(nm:ByteArray)(s:Se)(sa:Option Addr)(sc:Nat)(g:F)(na:Option Addr)(nc:Nat)(known:Bool)(h6:tmps.getD 6 undef=.pointer (some ⟨N,0,none⟩))(hc:∀j,j<15→FW.cell? ⟨N,j,none⟩=some ((aCT nm s sa sc g na nc known).getD j undef)):
  (results Tryz.f103 tmps).run Tryz.prog FW=.ok (aHO nm s sa sc g na nc known) FW:=by
 have d0:FW.cell? ⟨N,0,none⟩=some (.string s.al):=hc 0 (by omega)
 have d1:FW.cell? ⟨N,1,none⟩=some (.string s.name):=hc 1 (by omega)
 have d2:FW.cell? ⟨N,2,none⟩=some (.bool s.one):=hc 2 (by omega)
 have d3:FW.cell? ⟨N,3,none⟩=some (.int .i64 s.id):=hc 3 (by omega)
 have d4:FW.cell? ⟨N,4,none⟩=some (.slice sa s.kids.length sc):=hc 4 (by omega)
 have d5:FW.cell? ⟨N,5,none⟩=some (.string nm):=hc 5 (by omega)
 have d6:FW.cell? ⟨N,6,none⟩=some (.string g.name):=hc 6 (by omega)
 have d7:FW.cell? ⟨N,7,none⟩=some (.string g.of):=hc 7 (by omega)
 have d8:FW.cell? ⟨N,8,none⟩=some (.bool g.list):=hc 8 (by omega)
 have d9:FW.cell? ⟨N,9,none⟩=some (.bool g.must):=hc 9 (by omega)
 have d10:FW.cell? ⟨N,10,none⟩=some (.bool g.far):=hc 10 (by omega)
 have d11:FW.cell? ⟨N,11,none⟩=some (.bool g.hidden):=hc 11 (by omega)
 have d12:FW.cell? ⟨N,12,none⟩=some (.bool g.shared):=hc 12 (by omega)
 have d13:FW.cell? ⟨N,13,none⟩=some (.slice na g.needs.length nc):=hc 13 (by omega)
 have d14:FW.cell? ⟨N,14,none⟩=some (.bool known):=hc 14 (by omega)
 clear hc
 simp only[Array.getD_eq_getD_getElem?] at h6
 simp[results,Tryz.results103,go_sem,h6,d0,d1,d2,d3,d4,d5,d6,d7,d8,d9,d10,d11,d12,d13,d14,aHO]
set_option maxRecDepth 20000 in
set_option maxHeartbeats 1600000 in
theorem aK5(p:Pt)(nm:ByteArray)(s:Se)(sa:Option Addr)(sc:Nat)(w:World)(B:Nat)(v:Value)(hP:PRep w (·<B) p v)(hB:B≤w.heap.size):
  Calls Tryz.prog 103 #[v,.string nm,.agg #[.string s.al,.string s.name,.bool s.one,.int .i64 s.id,.slice sa s.kids.length sc]] w fun e w'=>∃na nc,e=.returned (aHO nm s sa sc (fldF p nm s.name) na nc (fldB p nm s.name&&!(fldF p nm s.name).hidden))∧FRep w' (·<B) (fldF p nm s.name) (aggF (fldF p nm s.name) na nc)∧Below w.heap.size w w':=by
 have hP':=hP
 obtain⟨ta,tc,rfl,-,-,-⟩:=hP
 have HT:=aA0 (fun W (hW:Below w.heap.size w W)=>aHU p W B _ nm (hP'.under (hW.mono hB)) (Nat.le_trans hB hW.size))
 have HF:=aA0 (fun W v (hW:Below w.heap.size w W) (hv:TRep W (·<B) (aAY p nm) v)=>show Calls Tryz.prog 111 #[v,.string s.name] W fun e w'=>∃na nc,e=.returned (.tuple #[aggF (fldF p nm s.name) na nc,.bool (fldB p nm s.name)])∧Below W.heap.size W w'∧FRep w' (·<B) (fldF p nm s.name) (aggF (fldF p nm s.name) na nc) from
  (aDO (aAY p nm) W B v s.name hv (Nat.le_trans hB hW.size)).mono fun e w' ⟨n1,o1,l1,m1,f1,h1,s1,na,nl,nc,he,hb,hf⟩=>by
   obtain⟨na',nc',hv',hrest⟩:=hf
   rw[he,hv']
   exact⟨na',nc',rfl,hb,⟨na',nc',rfl,hrest⟩⟩)
 clear hP'
 obtain⟨g,hg⟩:∃g,g=fldF p nm s.name:=⟨_,rfl⟩
 obtain⟨kb,hkb⟩:∃b,b=fldB p nm s.name:=⟨_,rfl⟩
 rw[←hg,←hkb] at HF ⊢
 clear hg hkb
 have zX:(((w.alloc (.cells #[.string p.name,.slice ta p.types.length tc] 43)).alloc (.cells #[.string s.al,.string s.name,.bool s.one,.int .i64 s.id,.slice sa s.kids.length sc] 56)).alloc (.cells #[.string ⟨#[]⟩,.string ⟨#[]⟩,.bool false,.int .i64 0,.slice none 0 0,.string ⟨#[]⟩,.string ⟨#[]⟩,.string ⟨#[]⟩,.bool false,.bool false,.bool false,.bool false,.bool false,.slice none 0 0,.bool false] 95)).heap.size=w.heap.size+3:=by simp
 have bX:Below w.heap.size w (((w.alloc (.cells #[.string p.name,.slice ta p.types.length tc] 43)).alloc (.cells #[.string s.al,.string s.name,.bool s.one,.int .i64 s.id,.slice sa s.kids.length sc] 56)).alloc (.cells #[.string ⟨#[]⟩,.string ⟨#[]⟩,.bool false,.int .i64 0,.slice none 0 0,.string ⟨#[]⟩,.string ⟨#[]⟩,.string ⟨#[]⟩,.bool false,.bool false,.bool false,.bool false,.bool false,.slice none 0 0,.bool false] 95)):=(aA5 w _ _).trans ((aA2 _ _).mono (by simp;omega))
 have nS:(((w.alloc (.cells #[.string p.name,.slice ta p.types.length tc] 43)).alloc (.cells #[.string s.al,.string s.name,.bool s.one,.int .i64 s.id,.slice sa s.kids.length sc] 56)).alloc (.cells #[.string ⟨#[]⟩,.string ⟨#[]⟩,.bool false,.int .i64 0,.slice none 0 0,.string ⟨#[]⟩,.string ⟨#[]⟩,.string ⟨#[]⟩,.bool false,.bool false,.bool false,.bool false,.bool false,.slice none 0 0,.bool false] 95)).heap[w.heap.size+1]?=some (.cells #[.string s.al,.string s.name,.bool s.one,.int .i64 s.id,.slice sa s.kids.length sc] 56 (0,0)):=by
  rw[(aA2 _ _).block _ (by simp)]
  exact aA3 _ _ (by simp)
 have nR:(((w.alloc (.cells #[.string p.name,.slice ta p.types.length tc] 43)).alloc (.cells #[.string s.al,.string s.name,.bool s.one,.int .i64 s.id,.slice sa s.kids.length sc] 56)).alloc (.cells #[.string ⟨#[]⟩,.string ⟨#[]⟩,.bool false,.int .i64 0,.slice none 0 0,.string ⟨#[]⟩,.string ⟨#[]⟩,.string ⟨#[]⟩,.bool false,.bool false,.bool false,.bool false,.bool false,.slice none 0 0,.bool false] 95)).heap[w.heap.size+1+1]?=some (.cells #[.string ⟨#[]⟩,.string ⟨#[]⟩,.bool false,.int .i64 0,.slice none 0 0,.string ⟨#[]⟩,.string ⟨#[]⟩,.string ⟨#[]⟩,.bool false,.bool false,.bool false,.bool false,.bool false,.slice none 0 0,.bool false] 95 (0,0)):=aA3 _ _ (by simp)
 cases kb
 ·go_enter Tryz.func103,Tryz.ntmps103
  go_wp2_with fail
  generalize ((w.alloc (.cells #[.string p.name,.slice ta p.types.length tc] 43)).alloc (.cells #[.string s.al,.string s.name,.bool s.one,.int .i64 s.id,.slice sa s.kids.length sc] 56)).alloc (.cells #[.string ⟨#[]⟩,.string ⟨#[]⟩,.bool false,.int .i64 0,.slice none 0 0,.string ⟨#[]⟩,.string ⟨#[]⟩,.string ⟨#[]⟩,.bool false,.bool false,.bool false,.bool false,.bool false,.slice none 0 0,.bool false] 95)=X at*
  refine(HT.out X bX).mono ?_
  rintro e w1 ⟨tn,ky,fa,fl,fc,rfl,hb1,hT1⟩
  have z1:=hb1.size
  have b01:=bX.trans (hb1.mono (by omega))
  have HT1:=aA0 hT1
  have nS1:=(hb1.block _ (by omega)).trans nS
  have nR1:=(hb1.block _ (by omega)).trans nR
  clear nS nR hT1 HT
  have y1:∀o,(w1.alloc o).cell? ⟨w.heap.size+1,1,none⟩=some (.string s.name):=fun o=>(aA1 (((aA2 w1 o).block _ (by omega)).trans nS1) 1 (by simp)).1
  go_wp2_with fail
  refine(HF.out _ _ (b01.trans ((aA2 w1 _).mono b01.size)) (HT1.out.under ((aA2 w1 _).mono (by omega)))).mono ?_
  rintro e w2 ⟨na,nc,rfl,hb2,hF2⟩
  have z2:w1.heap.size+1≤w2.heap.size:=by have:=hb2.size;simpa using this
  have b12:Below w1.heap.size w1 w2:=(aA2 w1 _).trans (hb2.mono (by simp))
  have b02:=b01.trans (b12.mono b01.size)
  have HF2:=aA0 hF2
  have nS2:=(b12.block _ (by omega)).trans nS1
  have nR2:=(b12.block _ (by omega)).trans nR1
  clear hF2 hb2 HF y1 nS1 nR1 HT1
  unfold aggF at HF2 ⊢
  have xS:∀(o:Obj) (i:Nat) (hi:i<5),(w2.alloc o).cell? ⟨w.heap.size+1,i,none⟩=some #[Value.string s.al,.string s.name,.bool s.one,.int .i64 s.id,.slice sa s.kids.length sc][i]:=fun o i hi=>(aA1 (((aA2 w2 o).block _ (by omega)).trans nS2) i (by simpa using hi)).1
  have x0:=fun o=>xS o 0 (by omega)
  have x1:=fun o=>xS o 1 (by omega)
  have x2:=fun o=>xS o 2 (by omega)
  have x3:=fun o=>xS o 3 (by omega)
  have x4:=fun o=>xS o 4 (by omega)
  have HFIN:=aA0 (fun(o:Obj) (kn:Bool)=>show∀j,j<15→(puts (w2.alloc o) (w.heap.size+1+1) 0 (aCT nm s sa sc g na nc kn)).cell? ⟨w.heap.size+1+1,j,none⟩=some ((aCT nm s sa sc g na nc kn).getD j undef) from
   aDL (((aA2 w2 o).block _ (by omega)).trans nR2) rfl _ rfl _ rfl)
  have HBEL:=aA0 (fun(o:Obj) (kn:Bool)=>show Below w.heap.size w (puts (w2.alloc o) (w.heap.size+1+1) 0 (aCT nm s sa sc g na nc kn))∧FRep (puts (w2.alloc o) (w.heap.size+1+1) 0 (aCT nm s sa sc g na nc kn)) (·<B) g (.agg #[.string g.name,.string g.of,.bool g.list,.bool g.must,.bool g.far,.bool g.hidden,.bool g.shared,.slice na g.needs.length nc]) from
   ⟨aD2 (by omega) _ _ _ (b02.trans ((aA2 w2 o).mono b02.size)),HF2.out.mono fun j hj=>(aCX _ _ (by have:j<B:=hj;omega) _ _ _).trans ((aA2 w2 o).block j (by have:j<B:=hj;omega))⟩)
  have RB:=fun(o:Obj)=>((aA2 w2 o).block _ (by omega)).trans nR2
  have r0:=fun o=>(aA1 (RB o) 0 (by simp)).1
  have g0:=fun o=>(aA1 (RB o) 0 (by simp)).2
  have r1:=fun o=>(aA1 (RB o) 1 (by simp)).1
  have g1:=fun o=>(aA1 (RB o) 1 (by simp)).2
  have r2:=fun o=>(aA1 (RB o) 2 (by simp)).1
  have g2:=fun o=>(aA1 (RB o) 2 (by simp)).2
  have r3:=fun o=>(aA1 (RB o) 3 (by simp)).1
  have g3:=fun o=>(aA1 (RB o) 3 (by simp)).2
  have r4:=fun o=>(aA1 (RB o) 4 (by simp)).1
  have g4:=fun o=>(aA1 (RB o) 4 (by simp)).2
  have r5:=fun o=>(aA1 (RB o) 5 (by simp)).1
  have g5:=fun o=>(aA1 (RB o) 5 (by simp)).2
  have r6:=fun o=>(aA1 (RB o) 6 (by simp)).1
  have g6:=fun o=>(aA1 (RB o) 6 (by simp)).2
  have r7:=fun o=>(aA1 (RB o) 7 (by simp)).1
  have g7:=fun o=>(aA1 (RB o) 7 (by simp)).2
  have r8:=fun o=>(aA1 (RB o) 8 (by simp)).1
  have g8:=fun o=>(aA1 (RB o) 8 (by simp)).2
  have r9:=fun o=>(aA1 (RB o) 9 (by simp)).1
  have g9:=fun o=>(aA1 (RB o) 9 (by simp)).2
  have r10:=fun o=>(aA1 (RB o) 10 (by simp)).1
  have g10:=fun o=>(aA1 (RB o) 10 (by simp)).2
  have r11:=fun o=>(aA1 (RB o) 11 (by simp)).1
  have g11:=fun o=>(aA1 (RB o) 11 (by simp)).2
  have r12:=fun o=>(aA1 (RB o) 12 (by simp)).1
  have g12:=fun o=>(aA1 (RB o) 12 (by simp)).2
  have r13:=fun o=>(aA1 (RB o) 13 (by simp)).1
  have g13:=fun o=>(aA1 (RB o) 13 (by simp)).2
  have r14:=fun o=>(aA1 (RB o) 14 (by simp)).1
  have g14:=fun o=>(aA1 (RB o) 14 (by simp)).2
  clear RB
  go_wp2_with fail
  refine bodyPost_ret (aIO _ _ (w.heap.size+1+1) nm s sa sc g na nc false rfl (HFIN.out (.cells #[.string g.name,.string g.of,.bool g.list,.bool g.must,.bool g.far,.bool g.hidden,.bool g.shared,.slice na g.needs.length nc] 54) false)) rfl ⟨na,nc,?_,(HBEL.out (.cells #[.string g.name,.string g.of,.bool g.list,.bool g.must,.bool g.far,.bool g.hidden,.bool g.shared,.slice na g.needs.length nc] 54) false).2,(HBEL.out (.cells #[.string g.name,.string g.of,.bool g.list,.bool g.must,.bool g.far,.bool g.hidden,.bool g.shared,.slice na g.needs.length nc] 54) false).1⟩
  simp
 ·go_enter Tryz.func103,Tryz.ntmps103
  go_wp2_with fail
  generalize ((w.alloc (.cells #[.string p.name,.slice ta p.types.length tc] 43)).alloc (.cells #[.string s.al,.string s.name,.bool s.one,.int .i64 s.id,.slice sa s.kids.length sc] 56)).alloc (.cells #[.string ⟨#[]⟩,.string ⟨#[]⟩,.bool false,.int .i64 0,.slice none 0 0,.string ⟨#[]⟩,.string ⟨#[]⟩,.string ⟨#[]⟩,.bool false,.bool false,.bool false,.bool false,.bool false,.slice none 0 0,.bool false] 95)=X at*
  refine(HT.out X bX).mono ?_
  rintro e w1 ⟨tn,ky,fa,fl,fc,rfl,hb1,hT1⟩
  have z1:=hb1.size
  have b01:=bX.trans (hb1.mono (by omega))
  have HT1:=aA0 hT1
  have nS1:=(hb1.block _ (by omega)).trans nS
  have nR1:=(hb1.block _ (by omega)).trans nR
  clear nS nR hT1 HT
  have y1:∀o,(w1.alloc o).cell? ⟨w.heap.size+1,1,none⟩=some (.string s.name):=fun o=>(aA1 (((aA2 w1 o).block _ (by omega)).trans nS1) 1 (by simp)).1
  go_wp2_with fail
  refine(HF.out _ _ (b01.trans ((aA2 w1 _).mono b01.size)) (HT1.out.under ((aA2 w1 _).mono (by omega)))).mono ?_
  rintro e w2 ⟨na,nc,rfl,hb2,hF2⟩
  have z2:w1.heap.size+1≤w2.heap.size:=by have:=hb2.size;simpa using this
  have b12:Below w1.heap.size w1 w2:=(aA2 w1 _).trans (hb2.mono (by simp))
  have b02:=b01.trans (b12.mono b01.size)
  have HF2:=aA0 hF2
  have nS2:=(b12.block _ (by omega)).trans nS1
  have nR2:=(b12.block _ (by omega)).trans nR1
  clear hF2 hb2 HF y1 nS1 nR1 HT1
  unfold aggF at HF2 ⊢
  have xS:∀(o:Obj) (i:Nat) (hi:i<5),(w2.alloc o).cell? ⟨w.heap.size+1,i,none⟩=some #[Value.string s.al,.string s.name,.bool s.one,.int .i64 s.id,.slice sa s.kids.length sc][i]:=fun o i hi=>(aA1 (((aA2 w2 o).block _ (by omega)).trans nS2) i (by simpa using hi)).1
  have x0:=fun o=>xS o 0 (by omega)
  have x1:=fun o=>xS o 1 (by omega)
  have x2:=fun o=>xS o 2 (by omega)
  have x3:=fun o=>xS o 3 (by omega)
  have x4:=fun o=>xS o 4 (by omega)
  have HFIN:=aA0 (fun(o:Obj) (kn:Bool)=>show∀j,j<15→(puts (w2.alloc o) (w.heap.size+1+1) 0 (aCT nm s sa sc g na nc kn)).cell? ⟨w.heap.size+1+1,j,none⟩=some ((aCT nm s sa sc g na nc kn).getD j undef) from
   aDL (((aA2 w2 o).block _ (by omega)).trans nR2) rfl _ rfl _ rfl)
  have HBEL:=aA0 (fun(o:Obj) (kn:Bool)=>show Below w.heap.size w (puts (w2.alloc o) (w.heap.size+1+1) 0 (aCT nm s sa sc g na nc kn))∧FRep (puts (w2.alloc o) (w.heap.size+1+1) 0 (aCT nm s sa sc g na nc kn)) (·<B) g (.agg #[.string g.name,.string g.of,.bool g.list,.bool g.must,.bool g.far,.bool g.hidden,.bool g.shared,.slice na g.needs.length nc]) from
   ⟨aD2 (by omega) _ _ _ (b02.trans ((aA2 w2 o).mono b02.size)),HF2.out.mono fun j hj=>(aCX _ _ (by have:j<B:=hj;omega) _ _ _).trans ((aA2 w2 o).block j (by have:j<B:=hj;omega))⟩)
  have RB:=fun(o:Obj)=>((aA2 w2 o).block _ (by omega)).trans nR2
  have r0:=fun o=>(aA1 (RB o) 0 (by simp)).1
  have g0:=fun o=>(aA1 (RB o) 0 (by simp)).2
  have r1:=fun o=>(aA1 (RB o) 1 (by simp)).1
  have g1:=fun o=>(aA1 (RB o) 1 (by simp)).2
  have r2:=fun o=>(aA1 (RB o) 2 (by simp)).1
  have g2:=fun o=>(aA1 (RB o) 2 (by simp)).2
  have r3:=fun o=>(aA1 (RB o) 3 (by simp)).1
  have g3:=fun o=>(aA1 (RB o) 3 (by simp)).2
  have r4:=fun o=>(aA1 (RB o) 4 (by simp)).1
  have g4:=fun o=>(aA1 (RB o) 4 (by simp)).2
  have r5:=fun o=>(aA1 (RB o) 5 (by simp)).1
  have g5:=fun o=>(aA1 (RB o) 5 (by simp)).2
  have r6:=fun o=>(aA1 (RB o) 6 (by simp)).1
  have g6:=fun o=>(aA1 (RB o) 6 (by simp)).2
  have r7:=fun o=>(aA1 (RB o) 7 (by simp)).1
  have g7:=fun o=>(aA1 (RB o) 7 (by simp)).2
  have r8:=fun o=>(aA1 (RB o) 8 (by simp)).1
  have g8:=fun o=>(aA1 (RB o) 8 (by simp)).2
  have r9:=fun o=>(aA1 (RB o) 9 (by simp)).1
  have g9:=fun o=>(aA1 (RB o) 9 (by simp)).2
  have r10:=fun o=>(aA1 (RB o) 10 (by simp)).1
  have g10:=fun o=>(aA1 (RB o) 10 (by simp)).2
  have r11:=fun o=>(aA1 (RB o) 11 (by simp)).1
  have g11:=fun o=>(aA1 (RB o) 11 (by simp)).2
  have r12:=fun o=>(aA1 (RB o) 12 (by simp)).1
  have g12:=fun o=>(aA1 (RB o) 12 (by simp)).2
  have r13:=fun o=>(aA1 (RB o) 13 (by simp)).1
  have g13:=fun o=>(aA1 (RB o) 13 (by simp)).2
  have r14:=fun o=>(aA1 (RB o) 14 (by simp)).1
  have g14:=fun o=>(aA1 (RB o) 14 (by simp)).2
  clear RB
  go_wp2_with fail
  refine bodyPost_ret (aIO _ _ (w.heap.size+1+1) nm s sa sc g na nc (!g.hidden) rfl (HFIN.out (.cells #[.string g.name,.string g.of,.bool g.list,.bool g.must,.bool g.far,.bool g.hidden,.bool g.shared,.slice na g.needs.length nc] 54) (!g.hidden))) rfl ⟨na,nc,?_,(HBEL.out (.cells #[.string g.name,.string g.of,.bool g.list,.bool g.must,.bool g.far,.bool g.hidden,.bool g.shared,.slice na g.needs.length nc] 54) (!g.hidden)).2,(HBEL.out (.cells #[.string g.name,.string g.of,.bool g.list,.bool g.must,.bool g.far,.bool g.hidden,.bool g.shared,.slice na g.needs.length nc] 54) (!g.hidden)).1⟩
  simp
end Go.Proofs.YtokmgbidmnanpaaGreatDoor
