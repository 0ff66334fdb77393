import Derived.Test.YtcebpkeiaiiphaaGreatDoorRC10
set_option linter.unusedSimpArgs false
set_option linter.unusedVariables false
namespace Go.Proofs.YtcebpkeiaiiphaaGreatDoor
open Go.RowKit Go.Maps
def sk(p:Int)(t:ByteArray):Value:=.agg #[.int .i64 p,.string t]
theorem aV0{p p':Int}{t t':ByteArray}(h:sk p t=sk p' t'):p=p'∧t=t':=by
 simp[sk] at h;exact h
def SKs(v:Value):Prop:=∃p t,v=sk p t
theorem aPA:Tryz.prog.underlying 72=some (.struct (Tryz.prog.fieldsOf 72)):=by kernel_rfl
theorem aUI:Tryz.prog.stoodInHeld 72=false:=by kernel_rfl
theorem aMR:(Tryz.prog.fieldsOf 72).toList.map (fun f=>(f.name,f.type,f.offset))=[("Part",3,0),("Type",9,1)]:=by kernel_rfl
theorem aVE:Tryz.prog.underlying 3=some (.int .i64):=by kernel_rfl
theorem aT6(w:World)(em:Bool)(p:Int)(t:ByteArray):(Instr.checkKey em 10000 72 (.agg #[.int .i64 p,.string t])).run Tryz.prog w=.ok () w:=by kernel_rfl
theorem aTN(w:World)(p:Int)(t:ByteArray):(part 3 #[.int .i64 p,.string t] 0).run Tryz.prog w=.ok (.int .i64 p) w:=by kernel_rfl
theorem aTC(w:World)(p:Int)(t:ByteArray):(part 9 #[.int .i64 p,.string t] 1).run Tryz.prog w=.ok (.string t) w:=by kernel_rfl
theorem aLG(w:World)(a b:Int)(n m:ByteArray):
  (Op.equal 72 (.agg #[.int .i64 a,.string n]) (.agg #[.int .i64 b,.string m])).run Tryz.prog w=.ok ((a==b)&&(n.toList==m.toList)) w:=by
 have hp:(Op.equalIn 9999 3 (.int .i64 a) (.int .i64 b)).run Tryz.prog w=.ok (a==b) w:=run_equalIn_int w 9998 3 .i64 .i64 a b aVE;have hi:(Op.equalIn 9999 9 (.string n) (.string m)).run Tryz.prog w=.ok (n.toList==m.toList) w:=run_equalIn_string w 9998 9 n m Tryz.underlying9;show(Op.equalIn (9999+1) _ _ _).run _ _=_;rw[run_equalIn_agg w 9999 _ _ _ aPA aUI];obtain⟨f0,f1,hf⟩:∃f0 f1,(Tryz.prog.fieldsOf 72).toList=[f0,f1]:=by
  have h:=congrArg List.length aMR;simp only[List.length_map] at h
  match (Tryz.prog.fieldsOf 72).toList,h with
  |[f0,f1],_=>exact⟨f0,f1,rfl⟩
 have hk:=aMR;rw[hf] at hk ⊢;simp only[List.map_cons,List.map_nil,List.cons.injEq,Prod.mk.injEq,and_true] at hk;obtain⟨⟨n0,t0,o0⟩,n1,t1,o1⟩:=hk;simp only[Op.eqFields,n0,t0,o0,n1,t1,o1];obtain⟨q,hq⟩:∃q,q=(n.toList==m.toList):=⟨_,rfl⟩;obtain⟨r,hr⟩:∃q,q=(a==b):=⟨_,rfl⟩;rw[<-hq] at hi ⊢;rw[<-hr] at hp ⊢;cases r<;>cases q<;>simp[aTN,aTC,hp,hi,Result.andThen]
theorem aVD(w:World):aPR Tryz.prog 72 SKs w where
 fields:=⟨_,aPA⟩
 check em v hv:=by obtain⟨p,t,rfl⟩:=hv;exact aT6 w em _ _
 same v hv:=by
  obtain⟨p,t,rfl⟩:=hv;have:=aLG w p p t t;simpa[sk] using this
 differ u v hu hv hne:=by
  obtain⟨p,t,rfl⟩:=hu;obtain⟨p',t',rfl⟩:=hv;have:=aLG w p p' t t';rw[sk,sk,this];by_cases e:p=p'
  ·have hn:t≠t':=fun h=>hne (by rw[e,h])
   have:(t.toList==t'.toList)=false:=by simp;exact fun h=>hn (aOF h)
   simp[this]
  ·have:(p==p')=false:=by simp[e]
   simp[this]
 stays v hv:=by
  obtain⟨p,t,rfl⟩:=hv;have h:∀t:ByteArray,(t==t)=true:=fun t=>by
   show ByteArray.beq t t=true;unfold ByteArray.beq;simp
  simp[sk,Instr.sameBits,h]
theorem aV8(w:World):KeyG Tryz.prog 72 SKs w:=(aVD w).gen
end Go.Proofs.YtcebpkeiaiiphaaGreatDoor
namespace Go.Proofs.YtcebpkeiaiiphaaGreatDoor
open Go.RowKit
theorem aBJ.at{w:World}{B:Nat}{fs:List F}{fa:Option Addr}(h:aBJ w (·<B) fs fa)(hB:B<=w.heap.size)(k:Nat)(hk:k<fs.length):∃(b off:Nat) (na:Option Addr) (nc:Nat),fa=some ⟨b,off,none⟩∧
  FRep w (·<B) (fth fs k) (.agg #[.string (fth fs k).name,.string (fth fs k).of,.bool (fth fs k).list,.bool (fth fs k).must,.bool (fth fs k).far,.bool (fth fs k).hidden,.bool (fth fs k).shared,.slice na (fth fs k).needs.length nc])∧
  ∀W,Below w.heap.size w W->W.cell? ⟨b,off+k*8,none⟩=some (.string (fth fs k).name)∧W.cell? ⟨b,off+k*8+1,none⟩=some (.string (fth fs k).of)∧W.cell? ⟨b,off+k*8+2,none⟩=some (.bool (fth fs k).list)∧W.cell? ⟨b,off+k*8+3,none⟩=some (.bool (fth fs k).must)∧W.cell? ⟨b,off+k*8+4,none⟩=some (.bool (fth fs k).far)∧W.cell? ⟨b,off+k*8+5,none⟩=some (.bool (fth fs k).hidden)∧W.cell? ⟨b,off+k*8+6,none⟩=some (.bool (fth fs k).shared)∧W.cell? ⟨b,off+k*8+7,none⟩=some (.slice na (fth fs k).needs.length nc):=by
 obtain⟨-,C,hA,hr⟩:=h;obtain⟨b,off,rfl,hbB,hc⟩:=hA (by omega)
 have hkt:=hr k hk;obtain⟨e0,e1,e2,e3,e4,e5,e6,na,nc,e7,-⟩:=(hr k hk).parts;rw[e0,e1,e2,e3,e4,e5,e6,e7] at hkt;refine⟨b,off,na,nc,rfl,hkt,fun W hb=>?_⟩;have hck:∀j,j<8->W.cell? ⟨b,off+k*8+j,none⟩=some (C k j):=fun j hj=>(hb.cell (p:=⟨b,off+k*8+j,none⟩) (by show b<_;omega)).trans (hc k hk j hj)
 have c0:W.cell? ⟨b,off+k*8,none⟩=some (C k 0):=hck 0 (by omega)
 rw[c0,hck 1 (by omega),hck 2 (by omega),hck 3 (by omega),hck 4 (by omega),hck 5 (by omega),hck 6 (by omega),hck 7 (by omega),e0,e1,e2,e3,e4,e5,e6,e7]
 exact⟨rfl,rfl,rfl,rfl,rfl,rfl,rfl,rfl⟩
def aD2(ns:List ByteArray)(n:Nat):Bool:=(List.range n).all fun i=>aBB (nth ns i)
theorem aHZ(ns:List ByteArray)(n:Nat):aD2 ns (n+1)=(aD2 ns n&&aBB (nth ns n)):=by simp[aD2,List.range_succ]
def aBS(f:F):Bool:=aBB f.name&&(aAV f.of||aBB f.of)&&aD2 f.needs f.needs.length
set_option maxHeartbeats 800000 in
theorem aH5(f:F)(w:World)(B:Nat)(v:Value)(hR:FRep w (·<B) f v)(hB:B<=w.heap.size):
  Calls Tryz.prog 159 #[v] w fun e w'=>e=.returned (.bool (aBS f))∧Below w.heap.size w w':=by
 obtain⟨fn,of,l,m,fr,hi,sh,needs⟩:=f;obtain⟨na,nc,rfl,hS,hnc,hsn,hso,hb16⟩:=hR;simp only at hS hnc hsn hso hb16;have hN1:=fun w=>aDN fn w hsn;have hL:=fun w=>aFR of w;have hN2:=fun w=>aDN of w hso;have HF:Hid (aBS ⟨fn,of,l,m,fr,hi,sh,needs⟩=(aBB fn&&(aAV of||aBB of)&&aD2 needs needs.length)):=rfl;obtain⟨h1,h2,h3⟩:=hS;have h3':=h3;unfold maxLen at h3';cases x1:aBB fn
 ·rw[x1] at hN1;go_enter Tryz.func159,Tryz.ntmps159
  go_wp2_with (go_at_call_of 94 (Value.string fn);refine(hN1 _).mono ?_;rintro e w' ⟨rfl,rfl⟩)
  go_ret
  exact⟨aA4 (by rw[HF.out,x1];rfl),aA2 _ _⟩
 rw[x1] at hN1;cases x2:(aAV of||aBB of)
 ·have hs:aAV of=false:=by cases h:aAV of<;>simp_all
  have hn:aBB of=false:=by cases h:aBB of<;>simp_all
  rw[hs] at hL;rw[hn] at hN2;go_enter Tryz.func159,Tryz.ntmps159
  go_wp2_with (first| (go_at_call_of 94 (Value.string fn);refine(hN1 _).mono ?_;rintro e w' ⟨rfl,rfl⟩)| (go_at_call 59;refine(hL _).mono ?_;rintro e w' ⟨rfl,rfl⟩)| (go_at_call_of 94 (Value.string of);refine(hN2 _).mono ?_;rintro e w' ⟨rfl,rfl⟩))
  go_ret
  exact⟨aA4 (by rw[HF.out,x2];simp),aA2 _ _⟩
 have HE:Hid (aBS ⟨fn,of,l,m,fr,hi,sh,needs⟩=aD2 needs needs.length):=by show _=_;rw[HF.out,x1,x2];rfl
 have key:∀b1 b2:Bool,aAV of=b1->(b1=false->aBB of=b2∧b2=true)->Calls Tryz.prog 159 #[.agg #[.string fn,.string of,.bool l,.bool m,.bool fr,.bool hi,.bool sh,.slice na needs.length nc]] w fun e w'=>e=.returned (.bool (aBS ⟨fn,of,l,m,fr,hi,sh,needs⟩))∧Below w.heap.size w w':=by
  intro b1 b2 hb1 hb2;rw[hb1] at hL;cases b1;all_goals
   first| (obtain⟨hn2,rfl⟩:=hb2 rfl;rw[hn2] at hN2;clear hn2)| skip
   clear hb2;go_enter Tryz.func159,Tryz.ntmps159
   go_wp2_with (first| (go_at_call_of 94 (Value.string fn);refine(hN1 _).mono ?_;rintro e w' ⟨rfl,rfl⟩)| (go_at_call 59;refine(hL _).mono ?_;rintro e w' ⟨rfl,rfl⟩)| (go_at_call_of 94 (Value.string of);refine(hN2 _).mono ?_;rintro e w' ⟨rfl,rfl⟩))
   go_loop [24] (fun i=>∃k:Nat,k<=needs.length∧i=.int .i64 k∧aD2 needs k=true) (fun i=>needs.length- (intOf i).toNat)
   case atStart=>exact⟨0,Nat.zero_le _,rfl,rfl⟩
   case round=>
    obtain⟨k,hk,rfl,hp⟩:=hrel;have HP:Hid (aD2 needs k=true):=hp;clear hp;by_cases hlt:k<needs.length
    ·obtain⟨d,doff,rfl,hdB,hcc⟩:=h1 (by intro e;simp[e] at hlt)
     have hck:∀o,(w.alloc o).cell? ⟨d,doff+k,none⟩=some (.string (nth needs k)):=fun o=>((aA2 w o).cell (p:=⟨d,doff+k,none⟩) (by show d<_;omega)).trans (hcc k hlt)
     have hNk:=fun w=>aDN (nth needs k) w (h2 k);clear hcc h1;cases x3:aBB (nth needs k)
     ·rw[x3] at hNk;have hres:Hid (aD2 needs needs.length=false):=aBM (k:=k) hlt x3;go_wp2_with (go_at_call 94;refine(hNk _).mono ?_;rintro e w' ⟨rfl,rfl⟩)
      go_ret
      exact⟨aA4 (by rw[HE.out,hres.out]),aA2 _ _⟩
     ·rw[x3] at hNk;go_wp2_with (go_at_call 94;refine(hNk _).mono ?_;rintro e w' ⟨rfl,rfl⟩)
      go_round
      case rel=>exact⟨k+1,by omega,by go_num,by rw[aHZ,HP.out,x3];rfl⟩
      case measure=>simp[intOf];omega
    ·go_wp2_with fail
     go_ret
     have e:k=needs.length:=by omega
     exact⟨aA4 (by rw[HE.out,<-e,HP.out]),aA2 _ _⟩
 exact key (aAV of) (aBB of) rfl fun h=>⟨rfl,by rw[h] at x2;simpa using x2⟩
def aAN(fs:List F)(n:Nat):Bool:=(List.range n).all fun i=>aBS (fth fs i)
theorem aE6(fs:List F)(n:Nat):aAN fs (n+1)=(aAN fs n&&aBS (fth fs n)):=by simp[aAN,List.range_succ]
def aDV(fs:List F)(n:Nat):Bool:=(List.range n).all fun i=>!isT (fth fs i).of [113,117,101,114,121]
theorem aJQ(fs:List F)(n:Nat):aDV fs (n+1)=(aDV fs n&&!isT (fth fs n).of [113,117,101,114,121]):=by simp[aDV,List.range_succ]
set_option maxHeartbeats 800000 in
theorem aI8(t:T)(w:World)(B:Nat)(v:Value)(hR:TRep w (·<B) t v)(hB:B<=w.heap.size):
  Calls Tryz.prog 136 #[v] w fun e w'=>e=.returned (.bool (!aDV t.fields t.fields.length))∧Below w.heap.size w w':=by
 obtain⟨name,key,fields⟩:=t;obtain⟨fa,fc,rfl,hK,hnc,hn,ho⟩:=hR;simp only at hK hnc hn ho ⊢;have h3:=hK.1;go_enter Tryz.func136,Tryz.ntmps136
 go_wp2_with fail
 go_loopw [8] (fun i wr=>∃k:Nat,k<=fields.length∧i=.int .i64 k∧Below w.heap.size w wr∧aDV fields k=true) (fun i _=>fields.length- (intOf i).toNat)
 case atStart=>exact⟨0,Nat.zero_le _,rfl,aA2 _ _,rfl⟩
 case round=>
  obtain⟨k,hk,rfl,hbw,hp⟩:=hrel;have HP:Hid (aDV fields k=true):=hp;clear hp;have hz:=hbw.size;by_cases hlt:k<fields.length
  ·obtain⟨b,off,na,nc,rfl,-,hcs⟩:=hK.at hB k hlt;obtain⟨c0,c1,c2,c3,c4,c5,c6,c7⟩:=hcs wr hbw;clear hcs;cases x1:((fth fields k).of.toList==[113,117,101,114,121])
   ·go_wp2_with fail
    go_roundw
    case rel=>exact⟨k+1,by omega,by go_num,hbw.alloc hz _,by rw[aJQ,HP.out];simp[isT,x1]⟩
    case measure=>simp[intOf];omega
   ·have hres:Hid (aDV fields fields.length=false):=aBM (k:=k) hlt (by simp[isT,x1])
    go_wp2_with fail
    go_ret
    exact⟨aA4 (by rw[hres.out];rfl),hbw.alloc hz _⟩
  ·go_wp2_with fail
   go_ret
   have e:k=fields.length:=by omega
   exact⟨aA4 (by rw[<-e,HP.out];rfl),hbw⟩
end Go.Proofs.YtcebpkeiaiiphaaGreatDoor
namespace Go.Proofs.YtcebpkeiaiiphaaGreatDoor
open Go.RowKit Go.Maps
theorem aBG{P:Program}{w:World}{ops:Array Oper}{o:Oper}{a:Act}{K:Act->World->Prop}{Q:Exit->Act->World->Prop}{E:Prop}(hgd:o.guard=none)(s x:Operand)(t:TypeId)
  (ho:o.op=.call { callee:=.builtin .append,args:=#[s,x],argTypes:=#[t,t] })
  (base:Nat) (e:TypeId) (i:TypeInfo) (z:Value) (size bytes:Nat) (ht:P.underlying t=some (.slice e)) (hi:P.info? e=some i) (hz:i.zero=some z)
  (hsize:i.size=size) (hby:i.bytes=bytes) (hzs:z.cells.size=size) (hsz:0<size)
  (v:Value) (n:Nat) (xs:List Value) (hs:a.eval s=v) (hown:w.ownsRow base e size v n xs)
  (ad:Addr) (m c:Nat) (news:List Value) (hx:a.eval x=.slice (some ad) m c) (hl:news.length=m*size) (hnews:∀j u,news[j]?=some u->w.cell? (ad.add j)=some u) (h1:∀u∈ news,u.oneCell'=true)
  (h63:n+m<=maxLen) (hbytes:(n+m)*bytes<=140737488355328) (hbase:base<=w.heap.size)
  (h:∀v' w',w'.ownsRow base e size v' (n+m) (xs++news)->w.grownBy w' v.ownBlock->(v'=.slice none 0 0↔v=.slice none 0 0∧m=0)->(v'.ownBlock=v.ownBlock∨v'.ownBlock=some w.heap.size)->K (a.put o.dst v') w'):
  if Region.wanted o (yielded ops a.tmps)=true then Oper.wp P o a w K Q else E:=by
 have hw:Region.wanted o (yielded ops a.tmps)=true:=by simp[Region.wanted,hgd]
 rw[if_pos hw];obtain⟨v',w',hr,h2,h3,h4,h5⟩:=run_append_own_at (P:=P) w base t o.type e i z size bytes ht hi hz hsize hby hzs hsz v n xs hown ad m c news hl hnews h1 h63 hbytes hbase;unfold Oper.wp execOp;simp only[ho,resolve,invoke,builtin,Sem.run_bind,Sem.run_pure,Result.andThen_ok,List.map_toArray,List.map_cons,List.map_nil,hs,hx,hr];exact h v' w' h2 h3 h4 h5
structure aBD(O:Nat->Prop)(w w':World):Prop where
 os:w'.os=w.os
 tape:w'.tape=w.tape
 output:w'.output=w.output
 size:w.heap.size<=w'.heap.size
 block:∀b,b<w.heap.size->¬O b->w'.heap[b]?=w.heap[b]?
theorem aBD.refl(O:Nat->Prop)(w:World):aBD O w w:=⟨rfl,rfl,rfl,Nat.le_refl _,fun _ _ _=>rfl⟩
theorem aBD.trans{O Q R:Nat->Prop}{w w' w2:World}(h:aBD O w w')(h2:aBD Q w' w2)(e1:∀b,b<w.heap.size->O b->R b)(e2:∀b,b<w.heap.size->Q b->R b):aBD R w w2:=
 ⟨h2.os.trans h.os,h2.tape.trans h.tape,h2.output.trans h.output,Nat.le_trans h.size h2.size,fun b hb hn=>(h2.block b (Nat.lt_of_lt_of_le hb h.size) fun q=>hn (e2 b hb q)).trans (h.block b hb fun q=>hn (e1 b hb q))⟩
theorem aBD.grown{O:Nat->Prop}{w w':World}{row:Option Nat}(h:w.grownBy w' row)(e:∀b,row=some b->b<w.heap.size->O b):aBD O w w':=⟨h.os,h.tape,h.output,h.size,fun b hb hn=>h.block b hb fun q=>hn (e b q.symm hb)⟩
theorem aBD.below{O:Nat->Prop}{w w':World}{B:Nat}(h:aBD O w w')(hB:B<=w.heap.size)(e:∀b,b<B->¬O b):Below B w w':=⟨h.os,h.tape,h.output,h.size,fun b hb=>h.block b (by omega) (e b hb)⟩
theorem aBD.of_below{O:Nat->Prop}{w w':World}(h:Below w.heap.size w w'):aBD O w w':=⟨h.os,h.tape,h.output,h.size,fun b hb _=>h.block b hb⟩
theorem aBD.set{O:Nat->Prop}{w w':World}(h:aBD O w w')(b i:Nat)(v:Value)(hb:O b∨w.heap.size<=b):aBD O w (w'.setCell ⟨b,i,none⟩ v):=
 ⟨h.os,h.tape,h.output,by simpa using h.size,fun k hk hn=>(Below.heap_setCell _ _ _ _ (by rintro rfl;rcases hb with hb| hb;exact hn hb;omega)).trans (h.block k hk hn)⟩
theorem aCW{w:World}{b i:Nat}{cs:Array Value}{T:TypeId}{v:Value}(hb:w.heap[b]?=some (.cells cs T (0,0)))(h0:cs[i]?=some v):w.cell? ⟨b,i,none⟩=some v∧w.frozen? ⟨b,i,none⟩=false:=by
 obtain⟨hlt,e⟩:=Array.getElem?_eq_some_iff.1 h0;have h:=aA1 hb i hlt;rw[e] at h;exact h
theorem aJ0{cs:Array Value}{i:Nat}{v:Value}(h:cs[i]?=some v):cs.setIfInBounds i v=cs:=by
 obtain⟨hlt,e⟩:=Array.getElem?_eq_some_iff.1 h;apply Array.ext
 ·simp
 ·intro j h1 h2;rw[Array.getElem_setIfInBounds h2];by_cases e2:i=j
  ·subst e2;simp[e]
  ·simp[e2]
structure aG8(w:World)(F:Nat->Prop)(I:Value->Prop)(B:Nat)(kT:TypeId)(kn:Nat)(eT:TypeId)(en m sb off:Nat)(cs:Array Value)(T:TypeId)(KL:Nat)(KS:List Value)(GL:Value->List Value)(e:Ending)(w':World):Prop where
 ret:e=.returned (.tuple #[])
 ex:∃(kv:Value) (F':Nat->Prop),Lst w' F' I B kT kn eT en kv m KL KS GL∧w'.heap[sb]?=some (.cells (cs.setIfInBounds off kv) T (0,0))∧∀b,F' b->F b∨w.heap.size<=b
 only:aBD (fun b=>F b∨b=sb) w w'
def aFA(old:List Value)(KL:Nat)(KS kc:List Value)(KL':Nat)(KS':List Value):Prop:=(old=[]∧KL'=KL+1∧KS'=KS++kc)∨(old≠[]∧KL'=KL∧KS'=KS)
theorem Grps.found{w:World}{F:Nat->Prop}{B:Nat}{eT:TypeId}{en:Nat}{kv:Value}{G:Value->Option Value}{GL:Value->List Value}(h:Grps w F B eT en kv G GL)(hen:0<en)(key:Value):∃L,w.ownsRow B eT en ((G key).getD (.slice none 0 0)) L (GL key)∧((GL key=[]∧(G key).getD (.slice none 0 0)=.slice none 0 0)∨(GL key≠[]∧0<L∧∃g cap,(G key).getD (.slice none 0 0)=.slice (some ⟨g,0,none⟩) L cap))∧∀g,((G key).getD (.slice none 0 0)).ownBlock=some g->F g:=by
 cases hk:G key with
 |none=>
  have h1:=h.nil0 key hk;refine⟨0,?_,.inl ⟨h1,rfl⟩,fun g hg=>by cases hg⟩
  rw[h1];exact World.ownsRow_nil _ _ _ _
 |some v=>
  obtain⟨L,hL,hr⟩:=h.row key v hk;refine⟨L,hr,.inr ⟨fun e=>?_,hL,?_⟩,fun g hg=>(h.fp key v g hk hg).1⟩
  ·have h1:=hr.1;rw[e] at h1;have:L*en=0:=by simpa using h1.symm
   rcases Nat.mul_eq_zero.1 this with h2| h2<;>omega
  ·rcases hr.2 with⟨-,h0⟩| ⟨g,cap,cur,e,-⟩
   ·omega
   ·exact⟨g,cap,e⟩
set_option maxRecDepth 20000 in
set_option maxHeartbeats 1600000 in
theorem aPC(w w0:World)(hw0:Hid (w0=w))(F:Nat->Prop)(B:Nat)(kv:Value)(m KL KL':Nat)(KS KS':List Value)(GL GL':Value->List Value)(sb off:Nat)(cs:Array Value)(T:TypeId)(key one:ByteArray)
  (h:Lst w F SKy B 9 1 9 1 kv m KL KS GL) (hb:w.heap[sb]?=some (.cells cs T (0,0))) (h0:cs[off]?=some kv) (h1:cs[off+1]?=some (.map (some m))) (hsb:¬F sb) (hKL:KL<=1000000) (hGL:(GL (.string key)).length<=1000000)
  (hk:aFA (GL (.string key)) KL KS [.string key] KL' KS') (e1:GL' (.string key)=GL (.string key)++[.string one]) (e2:∀y,y≠ .string key->GL' y=GL y):
  Calls Tryz.prog 144 #[.pointer (some ⟨sb,off,none⟩),.string key,.string one] w (aG8 w0 F SKy B 9 1 9 1 m sb off cs T KL' KS' GL'):=by
 obtain⟨i9,hi9,hx0,hx1,hx2⟩:=info_parts aMV;have hsl:sb<w.heap.size:=(Array.getElem?_eq_some_iff.1 hb).1;have c1:=aCW hb h1;have c0:=aCW hb h0;have HH:=aA0 h;have HB:=aA0 hb;have HE0:=aA0 h0;have HE1:=aA0 h1;have HGL:=aA0 hGL;have he1:=aA0 e1;have he2:=aA0 e2;obtain⟨c1,-⟩:=c1;obtain⟨c0,z0⟩:=c0;have hfst:Hid (aFA (GL (.string key)) KL KS [.string key] KL' KS'):=hk;have HLK:Hid (∃v L,(Instr.lookup 135 (.map (some m)) (.string key) false).run Tryz.prog w=.ok v w∧((GL (.string key)=[]∧v=.slice none 0 0)∨(GL (.string key)≠[]∧0<L∧∃g cap,v=.slice (some ⟨g,0,none⟩) L cap))):=aA0 (by
  obtain⟨G,hO,hG⟩:=h.map;obtain⟨L,-,h3,-⟩:=hG.found (by decide) (.string key)
  refine⟨_,L,?_,h3⟩;have:=hO.lookG false (keyS w) Tryz.underlying135 (aGR w) (x:=.string key) ⟨_,rfl⟩;simpa using this)
 obtain⟨v,L,hlk,hv⟩:=HLK.out;clear h hb h0 h1 hGL e1 e2 hk HLK;go_enter Tryz.func144,Tryz.ntmps144
 rcases hv with⟨hgl,rfl⟩| ⟨hgl,hL,g,cap,rfl⟩
 case' inl=>
  have HK1:Hid (KL'=KL+1∧KS'=KS++[.string key]):=aA0 (by
   rcases hfst.out with h| h
   ·exact h.2
   ·exact absurd hgl h.1)
  clear hgl;go_upto_region 2 with(
   at_builtin
   refine wpList_append_lies _ rfl _ _ 33 rfl B 9 i9 (.string ByteArray.empty) 1 16 Tryz.underlying33 hi9 hx0 hx1 hx2 rfl (by decide) kv KL KS rfl (HH.out.keys.alloc _) ⟨w.heap.size,0,none⟩ 1 1 [.string key] rfl rfl (World.news_of_block (aA3 _ _ rfl)) (by intro u hu;simp at hu;subst hu;rfl) (by omega) (by unfold maxLen;omega) (by omega) (by have:=HH.out.mlt;simp;omega) _ rfl ?_
   intro g cap wF ho hgr hor hlt1;have hX:=HH.out.keep (w':=w.alloc (.cells #[.string key] 9)) (fun b hb=>(aA2 w _).block b (HH.out.bd b hb).2) (aA2 w _).size;have hks:kv.ownBlock≠some sb:=fun e=>hsb (HH.out.keyF sb e);have hbF:wF.heap[sb]?=some (.cells cs T (0,0)):=(hgr.block sb (by simp;omega) (fun e=>hks e.symm)).trans (((aA2 w _).block sb hsl).trans HB.out)
   have hcF:=aCW hbF HE0.out;obtain⟨hc0,hz0⟩:=hcF;have HLF:=aA0 (hX.key ho hgr (fun b hb=>by
    have hb:g=b:=Option.some.inj hb;subst hb;rcases hor with h| h
    ·exact .inl h
    ·exact .inr (by omega)))
   have HOF:Hid (aBD (fun b=>F b∨b=sb) w wF):=aA0 ((aBD.of_below (O:=fun b=>F b∨b=sb) (aA2 w _)).trans (aBD.grown (O:=fun b=>F b∨b=sb) hgr fun b e _=>.inl (HH.out.keyF b e)) (fun _ _ h=>h) fun _ _ h=>h);have HOR:Hid (kv.ownBlock=some g∨w.heap.size<=g):=aA0 (by
    rcases hor with h| h
    ·exact .inl h
    ·exact .inr (by simp at h;omega))
   have HBF:=aA0 hbF;clear hX ho hgr hor hbF)
  have hg:g≠sb:=fun e=>by
   subst e;rcases HOR.out with h| h
   ·exact hsb (HH.out.keyF g h)
   ·omega
  obtain⟨kv1,hkv1⟩:∃x,Hid (x=Value.slice (some ⟨g,0,none⟩) (KL+1) cap):=⟨_,aA0 rfl⟩;have HL1:Hid (∃F1,Lst (wF.setCell ⟨sb,off,none⟩ (.slice (some ⟨g,0,none⟩) (KL+1) cap)) F1 SKy B 9 1 9 1 kv1 m KL' KS' GL∧∀b,F1 b->F b∨w.heap.size<=b):=aA0 (by
   rw[HK1.out.1,HK1.out.2,hkv1.out];refine⟨_,HLF.out.keep (fun b hb=>Below.heap_setCell _ _ _ _ (by
    rintro rfl;rcases hb with hb| hb
    ·exact hsb hb
    ·exact hg (Option.some.inj hb))) (by simp),fun b hb=>?_⟩
   rcases hb with hb| hb
   ·exact .inl hb
   ·have hb:g=b:=Option.some.inj hb;subst hb;rcases HOR.out with h| h
    ·exact .inl (HH.out.keyF g h)
    ·exact .inr h)
  have HB1:Hid ((wF.setCell ⟨sb,off,none⟩ (.slice (some ⟨g,0,none⟩) (KL+1) cap)).heap[sb]?=some (.cells (cs.setIfInBounds off kv1) T (0,0))):=aA0 (by rw[hkv1.out];exact aAC HBF.out off _)
  have HO1:=aA0 (HOF.out.set sb off (.slice (some ⟨g,0,none⟩) (KL+1) cap) (.inl (.inr rfl)));generalize wF.setCell ⟨sb,off,none⟩ (.slice (some ⟨g,0,none⟩) (KL+1) cap)=w1 at*;clear HLF HOF HOR HBF hc0 hz0 hkv1 HK1 hlt1 hg
 case' inr=>
  have HK1:Hid (KL'=KL∧KS'=KS):=aA0 (by
   rcases hfst.out with h| h
   ·exact absurd h.1 hgl
   ·exact h.2)
  clear hgl;have hL0:¬(L:Int)=0:=by omega
  go_upto_region 2 with fail
  obtain⟨kv1,hkv1⟩:∃x,Hid (x=kv):=⟨_,aA0 rfl⟩;obtain⟨w1,hw1⟩:∃x,x=w:=⟨_,rfl⟩;have HL1:Hid (∃F1,Lst w1 F1 SKy B 9 1 9 1 kv1 m KL' KS' GL∧∀b,F1 b->F b∨w.heap.size<=b):=aA0 ⟨F,by rw[HK1.out.1,HK1.out.2,hkv1.out,hw1];exact HH.out,fun b hb=>.inl hb⟩
  have HB1:Hid (w1.heap[sb]?=some (.cells (cs.setIfInBounds off kv1) T (0,0))):=aA0 (by rw[hkv1.out,aJ0 HE0.out,hw1];exact HB.out)
  have HO1:Hid (aBD (fun b=>F b∨b=sb) w w1):=aA0 (by rw[hw1];exact aBD.refl _ _)
  rw[<-hw1];clear hkv1 HK1 hL0 hL hlk hw1
 all_goals
  obtain⟨F1,hL1,hF1⟩:=HL1.out;obtain⟨G,hO,hG⟩:=hL1.map;obtain⟨L1,hrow,-,hfp⟩:=hG.found (by decide) (.string key)
  have hlen:=hrow.1;have hmlt:=hL1.mlt;have HGG:=aA0 hG;obtain⟨v1,hv1⟩:∃x,Hid (x=(G (.string key)).getD (.slice none 0 0)):=⟨_,aA0 rfl⟩;rw[<-hv1.out] at hrow hfp;have hgl:=HGL.out;have hLn:L1<=1000000:=by omega
  have hfs:∀g,F1 g->g≠sb:=fun g hg e=>by
   subst e;rcases hF1 g hg with h| h
   ·exact hsb h
   ·omega
  have hm1:m≠sb:=hfs m hL1.mapF;have HRW:Hid (∀W,Below w1.heap.size w1 W->W.ownsRow B 9 1 v1 L1 (GL (.string key))):=aA0 fun W hW=>aB2 hrow fun g hg=>hW.block g (hL1.bd g (hfp g hg)).2;have HOW:Hid (∀W,Below w1.heap.size w1 W->aDI W SKy m G):=aA0 fun W hW=>hO.of_block (hW.block m hmlt.2);have HLK:Hid (∀W,Below w1.heap.size w1 W->(Instr.lookup 135 (.map (some m)) (.string key) false).run Tryz.prog W=.ok v1 W):=aA0 fun W hW=>by
   have h:=(HOW.out W hW).lookG false (keyS W) Tryz.underlying135 (aGR W) (x:=(.string key)) ⟨_,rfl⟩;rw[hv1.out];simpa using h
  have hz1:=HO1.out.size;have HC0:Hid (∀W:World,W.heap[sb]?=w1.heap[sb]?->W.cell? ⟨sb,off+1,none⟩=some (.map (some m))):=aA0 fun W hW=>by
   refine(aCW (hW.trans HB1.out) ?_).1;rw[Array.getElem?_setIfInBounds_ne (by omega)]
   exact HE1.out
  have HC1:Hid (∀W,Below w1.heap.size w1 W->W.cell? ⟨sb,off+1,none⟩=some (.map (some m))):=aA0 fun W hW=>HC0.out W (hW.block sb (by omega))
  have HSF:Hid (∀W,Below w1.heap.size w1 W->∀wF,W.grownBy wF v1.ownBlock->wF.cell? ⟨sb,off+1,none⟩=some (.map (some m))∧aDI wF SKy m G):=aA0 fun W hW wF hg=>by
   have hz:=hW.size;exact⟨HC0.out wF ((hg.block sb (by omega) fun e=>hfs sb (hfp sb e.symm) rfl).trans (hW.block sb (by omega))),(HOW.out W hW).of_block (hg.block m (by omega) fun e=>aCF hO hrow e.symm)⟩
  have HST:Hid (∀wF w2:World,wF.grownBy w2 (some m)->wF.cell? ⟨sb,off+1,none⟩=some (.map (some m))->w2.cell? ⟨sb,off+1,none⟩=some (.map (some m))):=aA0 fun wF w2 hg hc=>hg.cell hc fun e=>hm1 (Option.some.inj e).symm;have HEND:Hid (∀W,Below w1.heap.size w1 W->∀(g cap:Nat) (wF:World),wF.ownsRow B 9 1 (.slice (some ⟨g,0,none⟩) (L1+1) cap) (L1+1) (GL (.string key)++[.string one])->W.grownBy wF v1.ownBlock->(v1.ownBlock=some g∨g=W.heap.size)->∀(w2:World) (G2:Value->Option Value),aDI w2 SKy m G2->G2 (.string key)=some (.slice (some ⟨g,0,none⟩) (L1+1) cap)->(∀y,y≠(.string key)->G2 y=G y)->wF.grownBy w2 (some m)->aG8 w0 F SKy B 9 1 9 1 m sb off cs T KL' KS' GL' (.returned (.tuple #[])) w2):=aA0 fun W hW g cap wF ho hg hor w2 G2 q1 q2 q3 q4=>by
   rw[hw0.out];have hz:=hW.size;have hzF:=hg.size;have hz2:=q4.size;have hLW:=hL1.keep (fun b hb=>hW.block b (hL1.bd b hb).2) hW.size;have hGW:Grps W F1 B 9 1 kv1 G GL:=⟨HGG.out.nil0,fun k v hk=>by
    obtain⟨L,h1,h2⟩:=HGG.out.row k v hk;exact⟨L,h1,aB2 h2 fun g hg=>hW.block g (hL1.bd g (HGG.out.fp k v g hk hg).1).2⟩,HGG.out.fp,HGG.out.apart⟩
   have hg':=hg;have hor':=hor;rw[hv1.out] at hg' hor';have hnb:∀b,(Value.slice (some ⟨g,0,none⟩) (L1+1) cap).ownBlock=some b->v1.ownBlock=some b∨W.heap.size<=b:=fun b hb=>by
    have hb:g=b:=Option.some.inj hb;subst hb;rcases hor with h| h
    ·exact .inl h
    ·exact .inr (by omega)
   have hnb':=hnb;rw[hv1.out] at hnb';have hP:=hLW.put (HOW.out W hW) hGW ho (Nat.succ_pos _) hg' hnb' q1 q2 q3 q4 he1.out he2.out;have hgs:∀b,(Value.slice (some ⟨g,0,none⟩) (L1+1) cap).ownBlock=some b->F b∨w.heap.size<=b:=fun b hb=>by
    rcases hnb b hb with h| h
    ·exact hF1 b (hfp b h)
    ·exact .inr (by omega)
   refine⟨rfl,⟨_,_,hP,?_,fun b hb=>?_⟩,?_⟩
   ·refine(q4.block sb (by omega) fun e=>hm1 (Option.some.inj e).symm).trans ((hg.block sb (by omega) fun e=>hfs sb (hfp sb e.symm) rfl).trans ((hW.block sb (by omega)).trans HB1.out))
   ·rcases hb with hb| hb
    ·exact hF1 b hb
    ·exact hgs b hb
   ·refine HO1.out.trans (((aBD.of_below (O:=fun b=>F1 b) hW).trans (aBD.grown (O:=fun b=>F1 b) hg fun b e _=>hfp b e) (fun _ _ h=>h) fun _ _ h=>h).trans (aBD.grown (O:=fun b=>F1 b) q4 fun b e _=>by cases e;exact hL1.mapF) (fun _ _ h=>h) fun _ _ h=>h) (fun _ _ h=>h) fun b hb h=>?_
    rcases hF1 b h with h| h
    ·exact .inl h
    ·omega
  clear hL1 hO hG hrow hlen hfp hfs hgl;refine wp_region_held_drew (S:=(fun w'=>w'.cell? ⟨sb,off+1,none⟩=some (.map (some m)))) (by kernel_rfl) (HC1.out _ (Below.refl _ _).drew) (fun hHeld=>?_)
  have bX:Below w1.heap.size w1 w1.drew:=(Below.refl _ _).drew;generalize w1.drew=wD at*;refine tkH 0 hHeld ?_;refine tkH 1 hHeld ?_;refine tkH 2 hHeld ?_;refine tkH 3 hHeld ?_;refine tkH 4 hHeld ?_;refine tkH 5 hHeld ?_;refine tkH 6 hHeld ?_;refine tkH 7 hHeld ?_;refine tkH 8 hHeld ?_;refine tkH 9 hHeld ?_;refine tkH 11 hHeld ?_;refine rdyH [10,12] ?_;refine rcH (fun K hK=>?_) ?_
  ·have hlk:=HLK.out wD bX;go_simp
   clear hlk;refine hK.out _ _ (HC1.out _ bX) (fun hHeld=>?_);clear hK K;try simp only[Act.put,sIA,sI0,sIS]
   refine rdyH [12] ?_;refine rcH (fun K hK=>?_) AllReadyH.nil;go_simp
   have bE:=aA2 wD (.cells #[.string one] 9);obtain⟨gE,hgE⟩:∃g,g=wD.heap.size:=⟨_,rfl⟩;have nE:=aA3 (w:=wD) (N:=gE) #[.string one] 9 hgE.symm;have bX:=bX.trans (bE.mono bX.size);refine hK.out _ _ (HC1.out _ bX) (fun hHeld=>?_);clear hK K;try simp only[Act.put,sIA,sI0,sIS]
   rw[<-hgE];generalize wD.alloc (.cells #[.string one] 9)=wE at*;clear hgE bE;refine rdyH [13] ?_;refine rcH (fun K hK=>?_) AllReadyH.nil;refine step_append_lies _ rfl (.tmp 34) (.tmp 36) 33 rfl B 9 i9 (.string ByteArray.empty) 1 16 Tryz.underlying33 hi9 hx0 hx1 hx2 rfl (by decide) v1 L1 (GL (.string key)) rfl (HRW.out wE bX) ⟨gE,0,none⟩ 1 1 [.string one] rfl rfl (World.news_of_block nE) (by intro u hu;simp at hu;rcases hu with rfl<;>rfl) (by omega) (by unfold maxLen;omega) (by omega) (by have:=bX.size;omega) _ rfl ?_
   intro gF capF wF oF hgF horF hltF;obtain⟨hsF,hOF⟩:=HSF.out wE bX wF hgF;have HAF:=aA0 (HEND.out wE bX gF capF wF oF hgF horF);have HOF:=aA0 hOF;clear oF hgF horF hOF;refine hK.out _ _ hsF (fun hHeld=>?_);clear hK K;try simp only[Act.put,sIA,sI0,sIS]
   refine rdyH [14] ?_;refine rcH (fun K hK=>?_) AllReadyH.nil;obtain⟨wT,G2,hrun,hG2,hGx,hGo,hgr⟩:=HOF.out.storeG (keyS _) Tryz.underlying135 (x:=(.string key)) ⟨_,rfl⟩ (.slice (some ⟨gF,0,none⟩) (L1+1) capF);have HFN:=aA0 (HAF.out wT G2 hG2 hGx hGo hgr);have hsT:=HST.out wF wT hgr hsF;try simp only[fk] at hrun
   go_simp
   clear hrun hG2 hGx hGo hgr;refine hK.out _ _ hsT (fun hHeld=>?_);clear hK K;try simp only[Act.put,sIA,sI0,sIS]
   refine wpAnyH_done (by kernel_rfl) ?_ _
   go_wp2_with fail
   refine bodyPost_end (v:=.tuple #[]) ?res rfl HFN.out;case res=>simp[results,Tryz.results144,go_sem]
  refine rcH (fun K hK=>?_) AllReadyH.nil;go_simp
  have bE:=aA2 wD (.cells #[.string one] 9);obtain⟨gE,hgE⟩:∃g,g=wD.heap.size:=⟨_,rfl⟩;have nE:=aA3 (w:=wD) (N:=gE) #[.string one] 9 hgE.symm;have bX:=bX.trans (bE.mono bX.size);refine hK.out _ _ (HC1.out _ bX) (fun hHeld=>?_);clear hK K;try simp only[Act.put,sIA,sI0,sIS]
  rw[<-hgE];generalize wD.alloc (.cells #[.string one] 9)=wE at*;clear hgE bE;refine rdyH [10] ?_;refine rcH (fun K hK=>?_) AllReadyH.nil;have hlk:=HLK.out wE bX;go_simp
  clear hlk;refine hK.out _ _ (HC1.out _ bX) (fun hHeld=>?_);clear hK K;try simp only[Act.put,sIA,sI0,sIS]
  refine rdyH [13] ?_;refine rcH (fun K hK=>?_) AllReadyH.nil;refine step_append_lies _ rfl (.tmp 34) (.tmp 36) 33 rfl B 9 i9 (.string ByteArray.empty) 1 16 Tryz.underlying33 hi9 hx0 hx1 hx2 rfl (by decide) v1 L1 (GL (.string key)) rfl (HRW.out wE bX) ⟨gE,0,none⟩ 1 1 [.string one] rfl rfl (World.news_of_block nE) (by intro u hu;simp at hu;rcases hu with rfl<;>rfl) (by omega) (by unfold maxLen;omega) (by omega) (by have:=bX.size;omega) _ rfl ?_
  intro gF capF wF oF hgF horF hltF;obtain⟨hsF,hOF⟩:=HSF.out wE bX wF hgF;have HAF:=aA0 (HEND.out wE bX gF capF wF oF hgF horF);have HOF:=aA0 hOF;clear oF hgF horF hOF;refine hK.out _ _ hsF (fun hHeld=>?_);clear hK K;try simp only[Act.put,sIA,sI0,sIS]
  refine rdyH [14] ?_;refine rcH (fun K hK=>?_) AllReadyH.nil;obtain⟨wT,G2,hrun,hG2,hGx,hGo,hgr⟩:=HOF.out.storeG (keyS _) Tryz.underlying135 (x:=(.string key)) ⟨_,rfl⟩ (.slice (some ⟨gF,0,none⟩) (L1+1) capF);have HFN:=aA0 (HAF.out wT G2 hG2 hGx hGo hgr);have hsT:=HST.out wF wT hgr hsF;try simp only[fk] at hrun
  go_simp
  clear hrun hG2 hGx hGo hgr;refine hK.out _ _ hsT (fun hHeld=>?_);clear hK K;try simp only[Act.put,sIA,sI0,sIS]
  refine wpAnyH_done (by kernel_rfl) ?_ _
  go_wp2_with fail
  refine bodyPost_end (v:=.tuple #[]) ?res rfl HFN.out;case res=>simp[results,Tryz.results144,go_sem]
end Go.Proofs.YtcebpkeiaiiphaaGreatDoor
