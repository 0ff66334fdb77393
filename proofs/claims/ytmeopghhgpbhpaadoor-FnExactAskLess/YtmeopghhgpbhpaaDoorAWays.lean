/-
  The program's AskWays.
-/
import Derived.Test.YtmeopghhgpbhpaaDoorADepth2
namespace Go.Proofs.YtmeopghhgpbhpaaDoor
set_option linter.unusedSimpArgs false
set_option linter.unusedVariables false
open Go.RowKit Go.Shelf Go.Maps
attribute [local go_sem] Oper.semAt_some

/-- A region that draws its order, in a round's frame: what may come up, one by one. -/
theorem anyIn_go {F : Fence} {n : Nat} {P : Program} {md : Region.Mode} {ops : Array Oper} {Q : Exit → Act → World → Prop} {fuel : Nat} {listed : Array Bool} {a : Act} {w : World} (rs : List Nat) (hr : Region.ready md ops listed = rs) (hne : rs ≠ [])
    (h : ∀ i ∈ rs, ∃ o, ops[i]? = some o ∧ o.guard = none ∧ o.wpIn F n P a w (wpAnyIn F n P md ops Q fuel (listed.setIfInBounds i true)) Q) : wpAnyIn F n P md ops Q (fuel + 1) listed a w := by
  refine ⟨fun e => absurd (hr.symm.trans e) hne, fun i hi => ?_⟩
  rw [hr] at hi
  obtain ⟨o, h1, h2, h3⟩ := h i hi
  have hw : Region.wanted o (yielded ops a.tmps) = true := by simp [Region.wanted, h2]
  simp only [wpOpIn, h1, hw, if_true]
  exact h3
theorem anyIn_done {F : Fence} {n : Nat} {P : Program} {md : Region.Mode} {ops : Array Oper} {Q : Exit → Act → World → Prop} {listed : Array Bool} {a : Act} {w : World} (hr : Region.ready md ops listed = []) (h : Q .normal a w) : wpAnyIn F n P md ops Q 0 listed a w := ⟨hr, h⟩
/-- An append at an operation, in a round's frame. -/
theorem append_wpIn {F : Fence} {n : Nat} {P : Program} {w : World} {o : Oper} {a : Act} {K : Act → World → Prop} {Q : Exit → Act → World → Prop} (s x : Operand) (t : TypeId) (ho : o.op = .call { callee := .builtin .append, args := #[s, x], argTypes := #[t, t] })
    (base : Nat) (e : TypeId) (i : TypeInfo) (z : Value) (size bytes : Nat) (ht : P.underlying t = some (.slice e)) (hi : P.info? e = some i) (hz : i.zero = some z) (hsize : i.size = size) (hby : i.bytes = bytes) (hzs : z.cells.size = size) (hsz : 0 < size)
    (v : Value) (k : Nat) (xs : List Value) (hs : a.eval s = v) (hown : w.ownsRow base e size v k xs) (ad : Addr) (m c : Nat) (news : List Value) (hx : a.eval x = .slice (some ad) m c) (hl : news.length = m * size)
    (hnews : ∀ j u, news[j]? = some u → w.cell? (ad.add j) = some u) (h1 : ∀ u ∈ news, u.oneCell' = true) (h63 : k + m ≤ maxLen) (hbytes : (k + m) * bytes ≤ 140737488355328) (hbase : base ≤ w.heap.size)
    (h : ∀ v' w', w'.ownsRow base e size v' (k + m) (xs ++ news) → w.grownBy w' v.ownBlock → (v'.ownBlock = v.ownBlock ∨ v'.ownBlock = some w.heap.size) → K (a.put o.dst v') w') : o.wpIn F n P a w K Q := by
  obtain ⟨v', w', hr, h2, h3, -, h5⟩ := run_append_own_at (P := P) w base t o.type e i z size bytes ht hi hz hsize hby hzs hsz v k xs hown ad m c news hl hnews h1 h63 hbytes hbase
  unfold Oper.wpIn
  refine ⟨by simp [Oper.about, ho, resolve, Target.leads, Sem.run_pure], ?_⟩
  rw [Oper.semAt_plain F _ _ (by rw [ho]; intro c hc'; cases hc')]
  simp [execOp, ho, resolve, invoke, builtin, hs, hx, hr, Result.andThen]
  exact h v' w' h2 h3 h5
/-- The ways to all that an ask asks for. -/
def askWays (f : Nat) (ks : List Se) : List (List UInt8) := if askOk f ks = true then (preTo f [] ks ks.length).map fun x => joinW x.1 else []
/-- What the rounds of AskWays know. -/
structure IWy (w : World) (pre : List (Way × Se)) (O : Nat → Prop) (ts : List ByteArray) (wv : Value) (A : World) : Prop where
  gat : Gat w.heap.size w.heap.size ts wv A
  texts : ts.map ByteArray.toList = pre.map fun x => joinW x.1
  sizes : ∀ t ∈ ts, t.size ≤ 1048577000
  bel : Below w.heap.size w A
  own : ∀ b, O b ↔ b = w.heap.size ∨ wv.ownBlock = some b
/-- One more text is gathered. -/
theorem IWy.next {w : World} {pre : List (Way × Se)} {O : Nat → Prop} {ts : List ByteArray} {wv v' : Value} {A W W3 : World} {x : Way × Se} {t : ByteArray} (h : IWy w pre O ts wv A) (hb : Below A.heap.size A W) (hgr : W.grownBy W3 wv.ownBlock)
    (hown : W3.ownsRow w.heap.size 9 1 v' (ts.length + 1) (ts.map Value.string ++ [.string t])) (hat : v'.ownBlock = wv.ownBlock ∨ v'.ownBlock = some W.heap.size) (ht : t.toList = joinW x.1) (hts : t.size ≤ 1048577000) :
    (∃ O', (∃ ts wv, IWy w (pre ++ [x]) O' ts wv (W3.setCell ⟨w.heap.size, 0, none⟩ v')) ∧ KeepO O A (W3.setCell ⟨w.heap.size, 0, none⟩ v') ∧ ∀ b, O' b → O b ∨ A.heap.size ≤ b) ∧ KeepsOthers A (W3.setCell ⟨w.heap.size, 0, none⟩ v') := by
  have lN1 := (Array.getElem?_eq_some_iff.1 h.gat.1).1
  have zW := hb.size
  have zA := h.bel.size
  have hk : ∀ (k : Nat) (o : Obj), A.heap[k]? = some o → wv.ownBlock ≠ some k → W3.heap[k]? = some o := fun k o hk hne => by
    have h1 := (hb.block k (Array.getElem?_eq_some_iff.1 hk).1).trans hk
    rw [hgr.block k (Array.getElem?_eq_some_iff.1 h1).1 (fun e => hne e.symm)]
    exact h1
  have hv1 : v'.ownBlock ≠ some w.heap.size := fun e => by
    rcases hat with e2 | e2
    · exact h.gat.2.2 (by rw [← e2, e])
    · rw [e2] at e
      simp only [Option.some.injEq] at e
      omega
  have hset : ∀ (k : Nat), k ≠ w.heap.size → (W3.setCell ⟨w.heap.size, 0, none⟩ v').heap[k]? = W3.heap[k]? := fun k hk => Below.heap_setCell _ _ _ _ hk
  have hbl : ∀ b, wv.ownBlock = some b → w.heap.size ≤ b := fun b hb => (h.gat.2.1.lt b hb).1
  refine ⟨⟨fun b => b = w.heap.size ∨ v'.ownBlock = some b, ⟨ts ++ [t], v', ⟨⟨?_, ?_, hv1⟩, ?_, ?_, ?_, fun b => Iff.rfl⟩⟩, ⟨?_, fun b o hO hc hcl => ?_⟩, fun b hO => ?_⟩, ⟨?_, fun k o hko ho => ?_⟩⟩
  · rw [set_box (hk _ _ h.gat.1 h.gat.2.2)]; rfl
  · have := hown.kept (row := some w.heap.size) (w' := W3.setCell ⟨w.heap.size, 0, none⟩ v') ⟨rfl, rfl, rfl, by simp [World.setCell], fun k _ hk => hset k (fun e => hk (by rw [e]))⟩ (Or.inr hv1)
    simpa using this
  · simp [h.texts, ht]
  · intro u hu
    rcases List.mem_append.1 hu with hu | hu
    · exact h.sizes u hu
    · rw [List.mem_singleton.1 hu]; exact hts
  · exact (((h.bel.trans (hb.mono zA)).grown hgr (by omega) hbl)).setCell (p := ⟨w.heap.size, 0, none⟩) (Nat.le_refl _) _
  · have := hgr.size
    simp; omega
  · have hn1 : b ≠ w.heap.size := fun e => hO ((h.own b).2 (Or.inl e))
    rw [hset _ hn1]
    exact hk _ _ hc (fun e => hO ((h.own b).2 (Or.inr e)))
  · rcases hO with rfl | hO
    · exact Or.inl ((h.own _).2 (Or.inl rfl))
    · rcases hat with e2 | e2
      · exact Or.inl ((h.own b).2 (Or.inr (by rw [← e2, hO])))
      · rw [e2] at hO
        simp only [Option.some.injEq] at hO
        exact Or.inr (by omega)
  · have := hgr.size
    simp; omega
  · have hn1 : k ≠ w.heap.size := fun e => by rw [e, h.gat.1] at hko; cases hko; cases ho
    rw [hset _ hn1]
    refine hk _ _ hko (fun e => ?_)
    rcases h.gat.2.1.2 with ⟨rfl, _⟩ | ⟨g, cap, cur, rfl, hbg, hg, _⟩
    · simp [Value.ownBlock] at e
    · simp only [Value.ownBlock, Option.some.injEq] at e
      rw [e, hko] at hg
      cases hg
      cases ho
theorem IWy.of {w : World} {pre : List (Way × Se)} {O : Nat → Prop} {ts : List ByteArray} {wv : Value} {A B : World} (h : IWy w pre O ts wv A) (hg : Gat w.heap.size w.heap.size ts wv B) (hb : Below w.heap.size w B) : IWy w pre O ts wv B :=
  ⟨hg, h.texts, h.sizes, hb, h.own⟩

set_option maxRecDepth 20000 in
set_option maxHeartbeats 3200000 in
theorem AskWaysI_any (f : Nat) (ks : List Se) (P : Nat → Prop) (B : Nat) (ka : Option Addr) (kc : Nat) (w : World) (h : AskIn f ks P B ka w) :
    Calls Tryd.prog 21 #[.slice ka ks.length kc] w fun e w' => ∃ (ts : List ByteArray) (wv : Value), e = .returned wv ∧ w'.ownsRow w.heap.size 9 1 wv ts.length (ts.map Value.string) ∧ ts.map ByteArray.toList = askWays f ks ∧ (∀ t ∈ ts, t.size ≤ 1048577000) ∧ ts.length ≤ 24 ∧ Below w.heap.size w w' := by
  have HO := hid_of (AskOkI_any f ks P B ka kc w h)
  cases ho : askOk f ks
  · rw [ho] at HO
    have HE : Hid (askWays f ks = []) := hid_of (by rw [askWays, ho]; rfl)
    refine (callsIn_wide (n := 3)).1 ?_
    refine callsIn_of_wp_marks Tryd.func21 rfl trivial ?_ rfl
    simp only [Tryd.ntmps21, List.size_toArray, List.length_cons, List.length_nil, Nat.reduceAdd, Nat.reduceSub, Array.replicate_succ, Array.replicate_zero, List.push_toArray, List.append_toArray, List.nil_append, List.cons_append]
    gi_wp2_with (refine ⟨trivial, ?_⟩; gi_at_call 12; refine (callsIn_wide.2 HO.out).mono ?_; rintro e w1 ⟨rfl, hb1⟩)
    refine ⟨_, results_tmp rfl _ _ _, [], .slice none 0 0, rfl, World.ownsRow_nil _ _ _ _, ?_, by simp, by simp, hb1⟩
    rw [HE.out]; rfl
  rw [ho] at HO
  have HE : Hid (askWays f ks = (preTo f [] ks ks.length).map fun x => joinW x.1) := hid_of (by rw [askWays, ho]; rfl)
  have hq : askB f ks = true := by
    simp only [askOk, Bool.and_eq_true] at ho
    exact ho.1
  obtain ⟨XS, hXS⟩ : ∃ XS, XS = preTo f [] ks ks.length := ⟨_, rfl⟩
  have hX24 : XS.length ≤ 24 := by
    simp only [askB, Bool.and_eq_true, decide_eq_true_eq] at hq
    rw [hXS, preTo_len f [] ks _ (Nat.le_refl _) h.fit]; exact hq.2
  have hwy : ∀ x ∈ XS, x.1.length ≤ 5 := by
    have := askB_walk f ks h.fit
    rw [hq, ← hXS] at this
    have h2 : walkB [] XS = true := by
      cases hw : walkB [] XS
      · rw [hw] at this; simp at this
      · rfl
    exact fun x hx => (((walkB_all XS []).1 h2).1 x hx).1
  have HXS := hid_of hXS
  clear hXS ho
  refine (callsIn_wide (n := 3)).1 ?_
  refine callsIn_of_wp_marks Tryd.func21 rfl trivial ?_ rfl
  simp only [Tryd.ntmps21, List.size_toArray, List.length_cons, List.length_nil, Nat.reduceAdd, Nat.reduceSub, Array.replicate_succ, Array.replicate_zero, List.push_toArray, List.append_toArray, List.nil_append, List.cons_append]
  gi_wp2_with (first
    | (refine ⟨trivial, ?_⟩; gi_at_call 12; refine (callsIn_wide.2 HO.out).mono ?_; rintro e w1 ⟨rfl, hb1⟩)
    | (refine ⟨trivial, ?_⟩; gi_at_call 37; refine (callsIn_wide.2 (selsOf_any _ ka ks.length kc)).mono ?_; rintro e w' ⟨rfl, rfl⟩))
  have h1 := h.on hb1
  clear HO
  obtain ⟨Y, hY⟩ : ∃ Y, Y = (w1.alloc (.cells #[.slice none 0 0] 31)).alloc (.cells #[.slice ka ks.length kc] 25) := ⟨_, rfl⟩
  have zY : Y.heap.size = w1.heap.size + 1 + 1 := by rw [hY]; simp
  have bY : Below w1.heap.size w1 Y := by rw [hY]; exact below_box2 _ _ _
  have rY : Y.heap[w1.heap.size]? = some (.cells #[.slice none 0 0] 31 (0, 0)) := by
    rw [hY, (below_box _ _).block _ (by simp)]
    exact block_new _ _ rfl
  have sY : Y.heap[w1.heap.size + 1]? = some (.cells #[.slice ka ks.length kc] 25 (0, 0)) := by
    rw [hY]
    exact block_new _ _ (by simp)
  rw [← hY]
  clear hY
  refine range_stop (w := Y) rfl (by omega) (gf := 54) (lb := #[.pointer (some ⟨w1.heap.size + 1, 0, none⟩)]) rfl trivial (enters_of Tryd.func54 (by kernel_rfl) rfl)
    XS (fun pre x ar A => ArgT x ar A ∧ pre ++ [x] <+: XS) ?ps (fun pre O A => ∃ ts wv, IWy w1 pre O ts wv A) ?still ?grows ?lt (fun _ => False) ?xstill
    (fun b => b = w1.heap.size) ?start ?seq
    (fun pre x ar a' A => ∃ (wa : Option Addr) (wc : Nat) (sv : Value), pre ++ [x] <+: XS ∧ x.1.length ≤ wc ∧ Strs A (· < A.heap.size) x.1 wa ∧ (∀ a ∈ x.1, a.size ≤ 1048576) ∧ x.1 ≠ [] ∧ a' = { tmps := #[.slice ka ks.length kc, undef, .slice none 0 0, .pointer (some ⟨w1.heap.size, 0, none⟩), .slice wa x.1.length wc, .slice ka ks.length kc, .bool true, .bool false, .slice ka ks.length kc, .func (.func 54) #[] #[.pointer (some ⟨w1.heap.size + 1, 0, none⟩)], .slice wa x.1.length wc, sv, undef, undef, undef, undef, undef, undef], defers := [] }) ?astill ?assign ?body ?done ?stop
  case ps =>
    rintro pre x ar A ⟨⟨wa, wc, sa, sc, rfl, -⟩, -⟩
    rfl
  case still =>
    rintro pre O A l o o' ⟨ts, wv, h⟩ hl ho1 ho2
    exact ⟨ts, wv, h.of (h.gat.still ho1 ho2) (h.bel.trans (below_putObj _ _ (by omega)))⟩
  case grows =>
    rintro pre O A A' ⟨ts, wv, h⟩ hb
    exact ⟨ts, wv, h.of (h.gat.grow hb) (h.bel.trans (hb.mono h.bel.size))⟩
  case lt =>
    rintro pre O A ⟨ts, wv, h⟩ b hb
    rcases (h.own b).1 hb with rfl | hv
    · exact (Array.getElem?_eq_some_iff.1 h.gat.1).1
    · exact (h.gat.2.1.lt b hv).2
  case xstill => exact fun A l o o' h => h.elim
  case start => exact ⟨[], .slice none 0 0, ⟨⟨rY, World.ownsRow_nil _ _ _ _, by simp [Value.ownBlock]⟩, rfl, by simp, bY, fun b => by simp [Value.ownBlock]⟩⟩
  case seq =>
    intro l J Jx W hb hJg hJO hy h0
    have hbW := bY.trans (hb.mono (by omega))
    have := selsOf1_any f ks l J Jx w1.heap.size hJg hJO (fun n pre O x ar A hJ hp hA => yieldAt_wide (hy pre O x ar A hJ ⟨hA, by rw [HXS.out]; exact hp⟩)) (3 - 1) _ W ka kc (w1.heap.size + 1) h1.fit h1.small ((h1.on hbW).rep.sub fun b hb => by have := (h1.apart b hb).1; have := h1.le; omega) hbW.size h1.few h0 (by rintro b rfl; omega) ((hb.cell (p := ⟨w1.heap.size + 1, 0, none⟩) (by show w1.heap.size + 1 < _; omega)).trans (box_at sY 0 (by simp)).1)
    rw [← HXS.out] at this
    exact this
  case astill =>
    rintro pre x ar a' A l o o' ⟨wa, wc, sv, h1, h2, h3, h4, h5, h6⟩ hl ho1 ho2
    exact ⟨wa, wc, sv, h1, h2, still_strs ho1 ho2 h3, h4, h5, h6⟩
  case assign =>
    rintro l pre x ar A K ⟨⟨wa, wc, sa, sc, rfl, h3, h4, h5, h6, h7, h8⟩, hp⟩ hK
    have HK := hid_of hK
    clear hK
    gi_wp2
    exact HK.out _ _ (Below.refl _ _) ⟨wa, wc, _, hp, h3, h4, h7, h8, rfl⟩
  case body =>
    rintro l pre O x ar a' A ⟨ts, wv, h⟩ ⟨wa, wc, sv, hp, h3, h4, h7, h8, rfl⟩
    have zY2 : w1.heap.size ≤ Y.heap.size := by omega
    clear zY
    have hpn : ts.length = pre.length := by have := congrArg List.length h.texts; simpa using this
    have hpl : pre.length ≤ 24 := by have := hp.length_le; simp at this; omega
    obtain ⟨va, vc, rfl, -⟩ := h.gat.strs (fun t ht => by have := h.sizes t ht; unfold maxLen; omega) (by omega)
    have hx5 : x.1.length ≤ 1000 := by
      have := hwy x (hp.subset (by simp))
      omega
    have hlN := (Array.getElem?_eq_some_iff.1 h.gat.1).1
    have hcell : ∀ W, Below A.heap.size A W → W.cell? ⟨w1.heap.size, 0, none⟩ = some (.slice va ts.length vc) := fun W hb => by
      have := (box_at ((hb.block _ hlN).trans h.gat.1) 0 (by simp)).1
      simpa using this
    have HC := hid_of hcell
    have hti : ts.length ≤ 24 := by omega
    have HW := hid_of (fun W (hb : Below A.heap.size A W) => wayText_any x.1 wa wc W ((h4.mono fun k hk => hb.block k hk).sub fun k hk => by have := hb.size; omega) h8 h3 hx5 h7)
    obtain ⟨i0, hi0, hz0, hz1, hz2⟩ := info_parts info9
    have HH := hid_of h
    have zA := h.bel.size
    clear hcell h hp hpn hpl h3 h4 h7 h8
    gi_wp2
    refine wpIn_region_any (by kernel_rfl) ?_
    have bD : Below A.heap.size A A.drew := (Below.refl _ _).drew
    refine anyIn_go [0, 1] (by kernel_rfl) (by simp) ?_
    intro i hi
    simp only [List.mem_cons, List.not_mem_nil, or_false] at hi
    rcases hi with rfl | rfl
    · refine ⟨_, rfl, rfl, ?_⟩
      generalize hK : wpAnyIn _ _ _ _ _ _ _ _ = K
      have HK := hid_of hK
      clear hK
      have c0 := HC.out A.drew bD
      gi_wp2
      rw [← HK.out]
      clear HK
      refine anyIn_go [1] (by kernel_rfl) (by simp) ?_
      intro i hi
      simp only [List.mem_cons, List.not_mem_nil, or_false] at hi
      subst hi
      refine ⟨_, rfl, rfl, ?_⟩
      generalize hK : wpAnyIn _ _ _ _ _ _ _ _ = K
      have HK := hid_of hK
      clear hK
      gi_wp2
      rw [← HK.out]
      clear HK
      refine anyIn_go [2] (by kernel_rfl) (by simp) ?_
      intro i hi
      simp only [List.mem_cons, List.not_mem_nil, or_false] at hi
      subst hi
      refine ⟨_, rfl, rfl, ?_⟩
      generalize hK : wpAnyIn _ _ _ _ _ _ _ _ = K
      have HK := hid_of hK
      clear hK
      gi_wp2
      refine ⟨trivial, (CallsIn.inRound l (callsIn_wide.2 (HW.out A.drew bD))).mono ?_⟩
      rintro e w2 ⟨⟨t, rfl, ht, hts⟩, hb2⟩
      have bw2 : Below A.heap.size A w2 := Below.trans bD (hb2.mono (Below.size bD))
      have HT := hid_of (And.intro ht hts)
      clear ht hts hb2
      gi_wp2
      rw [← HK.out]
      clear HK
      refine anyIn_go [3] (by kernel_rfl) (by simp) ?_
      intro i hi
      simp only [List.mem_cons, List.not_mem_nil, or_false] at hi
      subst hi
      refine ⟨_, rfl, rfl, ?_⟩
      generalize hK : wpAnyIn _ _ _ _ _ _ _ _ = K
      have HK := hid_of hK
      clear hK
      gi_wp2
      have bw3 : Below A.heap.size A (w2.alloc (.cells #[.string t] 9)) := bw2.trans ((below_box w2 _).mono bw2.size)
      rw [← HK.out]
      clear HK
      refine anyIn_go [4] (by kernel_rfl) (by simp) ?_
      intro i hi
      simp only [List.mem_cons, List.not_mem_nil, or_false] at hi
      subst hi
      refine ⟨_, rfl, rfl, ?_⟩
      refine append_wpIn (.tmp 12) (.tmp 15) 31 rfl w1.heap.size 9 i0 (.string ByteArray.empty) 1 16 Tryd.underlying31 hi0 hz0 hz1 hz2 rfl (by decide) (.slice va ts.length vc) ts.length (ts.map Value.string) rfl ((HH.out.gat.grow bw2).2.1.alloc _) ⟨w2.heap.size, 0, none⟩ 1 1 [.string t] rfl rfl (World.news_of_block (heap_alloc_new w2 _)) (by intro u hu; simp at hu; subst hu; rfl) (by unfold maxLen; omega) (by omega) (by have := bw2.size; simp; omega) ?_
      intro v' w4 hown hgrow hat
      have hnx := HH.out.next (x := x) (t := t) (bw2.trans ((below_box w2 _).mono bw2.size)) hgrow hown hat HT.out.1 HT.out.2
      have HN := hid_of hnx
      have n4 : w4.heap[w1.heap.size]? = some (.cells #[.slice va ts.length vc] 31 (0, 0)) := by
        have z2 := bw2.size
        rw [hgrow.block _ (by simp; omega) (fun e => HH.out.gat.2.2 e.symm)]
        exact ((bw2.trans ((below_box w2 _).mono bw2.size)).block _ hlN).trans HH.out.gat.1
      have g1 := (box_at n4 0 (by simp)).1
      have g1f := (box_at n4 0 (by simp)).2
      simp only [List.getElem_toArray, List.getElem_cons_zero] at g1
      obtain ⟨a4, m4, c4, rfl⟩ : ∃ a n c, v' = .slice a n c := by
        rcases hown.2 with ⟨hv, _⟩ | ⟨g, cap, cur, hv, _⟩
        · exact ⟨_, _, _, hv⟩
        · exact ⟨_, _, _, hv⟩
      clear hnx hown hgrow hat
      try simp only [Act.put, List.setIfInBounds_toArray, List.set_cons_zero, List.set_cons_succ]
      refine anyIn_go [5] (by kernel_rfl) (by simp) ?_
      intro i hi
      simp only [List.mem_cons, List.not_mem_nil, or_false] at hi
      subst hi
      refine ⟨_, rfl, rfl, ?_⟩
      generalize hK : wpAnyIn _ _ _ _ _ _ _ _ = K
      have HK := hid_of hK
      clear hK
      gi_wp2
      rw [← HK.out]
      refine anyIn_done (by kernel_rfl) ?_
      exact ⟨HN.out.2.from _, Or.inl ⟨rfl, Or.inl ⟨rfl, HN.out.1⟩⟩⟩
    · refine ⟨_, rfl, rfl, ?_⟩
      generalize hK : wpAnyIn _ _ _ _ _ _ _ _ = K
      have HK := hid_of hK
      clear hK
      gi_wp2
      rw [← HK.out]
      clear HK
      refine anyIn_go [0, 2] (by kernel_rfl) (by simp) ?_
      intro i hi
      simp only [List.mem_cons, List.not_mem_nil, or_false] at hi
      rcases hi with rfl | rfl
      · refine ⟨_, rfl, rfl, ?_⟩
        generalize hK : wpAnyIn _ _ _ _ _ _ _ _ = K
        have HK := hid_of hK
        clear hK
        have c0 := HC.out A.drew bD
        gi_wp2
        rw [← HK.out]
        clear HK
        refine anyIn_go [2] (by kernel_rfl) (by simp) ?_
        intro i hi
        simp only [List.mem_cons, List.not_mem_nil, or_false] at hi
        subst hi
        refine ⟨_, rfl, rfl, ?_⟩
        generalize hK : wpAnyIn _ _ _ _ _ _ _ _ = K
        have HK := hid_of hK
        clear hK
        gi_wp2
        refine ⟨trivial, (CallsIn.inRound l (callsIn_wide.2 (HW.out A.drew bD))).mono ?_⟩
        rintro e w2 ⟨⟨t, rfl, ht, hts⟩, hb2⟩
        have bw2 : Below A.heap.size A w2 := Below.trans bD (hb2.mono (Below.size bD))
        have HT := hid_of (And.intro ht hts)
        clear ht hts hb2
        gi_wp2
        rw [← HK.out]
        clear HK
        refine anyIn_go [3] (by kernel_rfl) (by simp) ?_
        intro i hi
        simp only [List.mem_cons, List.not_mem_nil, or_false] at hi
        subst hi
        refine ⟨_, rfl, rfl, ?_⟩
        generalize hK : wpAnyIn _ _ _ _ _ _ _ _ = K
        have HK := hid_of hK
        clear hK
        gi_wp2
        have bw3 : Below A.heap.size A (w2.alloc (.cells #[.string t] 9)) := bw2.trans ((below_box w2 _).mono bw2.size)
        rw [← HK.out]
        clear HK
        refine anyIn_go [4] (by kernel_rfl) (by simp) ?_
        intro i hi
        simp only [List.mem_cons, List.not_mem_nil, or_false] at hi
        subst hi
        refine ⟨_, rfl, rfl, ?_⟩
        refine append_wpIn (.tmp 12) (.tmp 15) 31 rfl w1.heap.size 9 i0 (.string ByteArray.empty) 1 16 Tryd.underlying31 hi0 hz0 hz1 hz2 rfl (by decide) (.slice va ts.length vc) ts.length (ts.map Value.string) rfl ((HH.out.gat.grow bw2).2.1.alloc _) ⟨w2.heap.size, 0, none⟩ 1 1 [.string t] rfl rfl (World.news_of_block (heap_alloc_new w2 _)) (by intro u hu; simp at hu; subst hu; rfl) (by unfold maxLen; omega) (by omega) (by have := bw2.size; simp; omega) ?_
        intro v' w4 hown hgrow hat
        have hnx := HH.out.next (x := x) (t := t) (bw2.trans ((below_box w2 _).mono bw2.size)) hgrow hown hat HT.out.1 HT.out.2
        have HN := hid_of hnx
        have n4 : w4.heap[w1.heap.size]? = some (.cells #[.slice va ts.length vc] 31 (0, 0)) := by
          have z2 := bw2.size
          rw [hgrow.block _ (by simp; omega) (fun e => HH.out.gat.2.2 e.symm)]
          exact ((bw2.trans ((below_box w2 _).mono bw2.size)).block _ hlN).trans HH.out.gat.1
        have g1 := (box_at n4 0 (by simp)).1
        have g1f := (box_at n4 0 (by simp)).2
        simp only [List.getElem_toArray, List.getElem_cons_zero] at g1
        obtain ⟨a4, m4, c4, rfl⟩ : ∃ a n c, v' = .slice a n c := by
          rcases hown.2 with ⟨hv, _⟩ | ⟨g, cap, cur, hv, _⟩
          · exact ⟨_, _, _, hv⟩
          · exact ⟨_, _, _, hv⟩
        clear hnx hown hgrow hat
        try simp only [Act.put, List.setIfInBounds_toArray, List.set_cons_zero, List.set_cons_succ]
        refine anyIn_go [5] (by kernel_rfl) (by simp) ?_
        intro i hi
        simp only [List.mem_cons, List.not_mem_nil, or_false] at hi
        subst hi
        refine ⟨_, rfl, rfl, ?_⟩
        generalize hK : wpAnyIn _ _ _ _ _ _ _ _ = K
        have HK := hid_of hK
        clear hK
        gi_wp2
        rw [← HK.out]
        refine anyIn_done (by kernel_rfl) ?_
        exact ⟨HN.out.2.from _, Or.inl ⟨rfl, Or.inl ⟨rfl, HN.out.1⟩⟩⟩
      · refine ⟨_, rfl, rfl, ?_⟩
        generalize hK : wpAnyIn _ _ _ _ _ _ _ _ = K
        have HK := hid_of hK
        clear hK
        gi_wp2
        refine ⟨trivial, (CallsIn.inRound l (callsIn_wide.2 (HW.out A.drew bD))).mono ?_⟩
        rintro e w2 ⟨⟨t, rfl, ht, hts⟩, hb2⟩
        have bw2 : Below A.heap.size A w2 := Below.trans bD (hb2.mono (Below.size bD))
        have HT := hid_of (And.intro ht hts)
        clear ht hts hb2
        gi_wp2
        rw [← HK.out]
        clear HK
        refine anyIn_go [0, 3] (by kernel_rfl) (by simp) ?_
        intro i hi
        simp only [List.mem_cons, List.not_mem_nil, or_false] at hi
        rcases hi with rfl | rfl
        · refine ⟨_, rfl, rfl, ?_⟩
          generalize hK : wpAnyIn _ _ _ _ _ _ _ _ = K
          have HK := hid_of hK
          clear hK
          have c0 := HC.out w2 bw2
          gi_wp2
          rw [← HK.out]
          clear HK
          refine anyIn_go [3] (by kernel_rfl) (by simp) ?_
          intro i hi
          simp only [List.mem_cons, List.not_mem_nil, or_false] at hi
          subst hi
          refine ⟨_, rfl, rfl, ?_⟩
          generalize hK : wpAnyIn _ _ _ _ _ _ _ _ = K
          have HK := hid_of hK
          clear hK
          gi_wp2
          have bw3 : Below A.heap.size A (w2.alloc (.cells #[.string t] 9)) := bw2.trans ((below_box w2 _).mono bw2.size)
          rw [← HK.out]
          clear HK
          refine anyIn_go [4] (by kernel_rfl) (by simp) ?_
          intro i hi
          simp only [List.mem_cons, List.not_mem_nil, or_false] at hi
          subst hi
          refine ⟨_, rfl, rfl, ?_⟩
          refine append_wpIn (.tmp 12) (.tmp 15) 31 rfl w1.heap.size 9 i0 (.string ByteArray.empty) 1 16 Tryd.underlying31 hi0 hz0 hz1 hz2 rfl (by decide) (.slice va ts.length vc) ts.length (ts.map Value.string) rfl ((HH.out.gat.grow bw2).2.1.alloc _) ⟨w2.heap.size, 0, none⟩ 1 1 [.string t] rfl rfl (World.news_of_block (heap_alloc_new w2 _)) (by intro u hu; simp at hu; subst hu; rfl) (by unfold maxLen; omega) (by omega) (by have := bw2.size; simp; omega) ?_
          intro v' w4 hown hgrow hat
          have hnx := HH.out.next (x := x) (t := t) (bw2.trans ((below_box w2 _).mono bw2.size)) hgrow hown hat HT.out.1 HT.out.2
          have HN := hid_of hnx
          have n4 : w4.heap[w1.heap.size]? = some (.cells #[.slice va ts.length vc] 31 (0, 0)) := by
            have z2 := bw2.size
            rw [hgrow.block _ (by simp; omega) (fun e => HH.out.gat.2.2 e.symm)]
            exact ((bw2.trans ((below_box w2 _).mono bw2.size)).block _ hlN).trans HH.out.gat.1
          have g1 := (box_at n4 0 (by simp)).1
          have g1f := (box_at n4 0 (by simp)).2
          simp only [List.getElem_toArray, List.getElem_cons_zero] at g1
          obtain ⟨a4, m4, c4, rfl⟩ : ∃ a n c, v' = .slice a n c := by
            rcases hown.2 with ⟨hv, _⟩ | ⟨g, cap, cur, hv, _⟩
            · exact ⟨_, _, _, hv⟩
            · exact ⟨_, _, _, hv⟩
          clear hnx hown hgrow hat
          try simp only [Act.put, List.setIfInBounds_toArray, List.set_cons_zero, List.set_cons_succ]
          refine anyIn_go [5] (by kernel_rfl) (by simp) ?_
          intro i hi
          simp only [List.mem_cons, List.not_mem_nil, or_false] at hi
          subst hi
          refine ⟨_, rfl, rfl, ?_⟩
          generalize hK : wpAnyIn _ _ _ _ _ _ _ _ = K
          have HK := hid_of hK
          clear hK
          gi_wp2
          rw [← HK.out]
          refine anyIn_done (by kernel_rfl) ?_
          exact ⟨HN.out.2.from _, Or.inl ⟨rfl, Or.inl ⟨rfl, HN.out.1⟩⟩⟩
        · refine ⟨_, rfl, rfl, ?_⟩
          generalize hK : wpAnyIn _ _ _ _ _ _ _ _ = K
          have HK := hid_of hK
          clear hK
          gi_wp2
          have bw3 : Below A.heap.size A (w2.alloc (.cells #[.string t] 9)) := bw2.trans ((below_box w2 _).mono bw2.size)
          rw [← HK.out]
          clear HK
          refine anyIn_go [0] (by kernel_rfl) (by simp) ?_
          intro i hi
          simp only [List.mem_cons, List.not_mem_nil, or_false] at hi
          subst hi
          refine ⟨_, rfl, rfl, ?_⟩
          generalize hK : wpAnyIn _ _ _ _ _ _ _ _ = K
          have HK := hid_of hK
          clear hK
          have c0 := HC.out (w2.alloc (.cells #[.string t] 9)) bw3
          gi_wp2
          rw [← HK.out]
          clear HK
          refine anyIn_go [4] (by kernel_rfl) (by simp) ?_
          intro i hi
          simp only [List.mem_cons, List.not_mem_nil, or_false] at hi
          subst hi
          refine ⟨_, rfl, rfl, ?_⟩
          refine append_wpIn (.tmp 12) (.tmp 15) 31 rfl w1.heap.size 9 i0 (.string ByteArray.empty) 1 16 Tryd.underlying31 hi0 hz0 hz1 hz2 rfl (by decide) (.slice va ts.length vc) ts.length (ts.map Value.string) rfl ((HH.out.gat.grow bw2).2.1.alloc _) ⟨w2.heap.size, 0, none⟩ 1 1 [.string t] rfl rfl (World.news_of_block (heap_alloc_new w2 _)) (by intro u hu; simp at hu; subst hu; rfl) (by unfold maxLen; omega) (by omega) (by have := bw2.size; simp; omega) ?_
          intro v' w4 hown hgrow hat
          have hnx := HH.out.next (x := x) (t := t) (bw2.trans ((below_box w2 _).mono bw2.size)) hgrow hown hat HT.out.1 HT.out.2
          have HN := hid_of hnx
          have n4 : w4.heap[w1.heap.size]? = some (.cells #[.slice va ts.length vc] 31 (0, 0)) := by
            have z2 := bw2.size
            rw [hgrow.block _ (by simp; omega) (fun e => HH.out.gat.2.2 e.symm)]
            exact ((bw2.trans ((below_box w2 _).mono bw2.size)).block _ hlN).trans HH.out.gat.1
          have g1 := (box_at n4 0 (by simp)).1
          have g1f := (box_at n4 0 (by simp)).2
          simp only [List.getElem_toArray, List.getElem_cons_zero] at g1
          obtain ⟨a4, m4, c4, rfl⟩ : ∃ a n c, v' = .slice a n c := by
            rcases hown.2 with ⟨hv, _⟩ | ⟨g, cap, cur, hv, _⟩
            · exact ⟨_, _, _, hv⟩
            · exact ⟨_, _, _, hv⟩
          clear hnx hown hgrow hat
          try simp only [Act.put, List.setIfInBounds_toArray, List.set_cons_zero, List.set_cons_succ]
          refine anyIn_go [5] (by kernel_rfl) (by simp) ?_
          intro i hi
          simp only [List.mem_cons, List.not_mem_nil, or_false] at hi
          subst hi
          refine ⟨_, rfl, rfl, ?_⟩
          generalize hK : wpAnyIn _ _ _ _ _ _ _ _ = K
          have HK := hid_of hK
          clear hK
          gi_wp2
          rw [← HK.out]
          refine anyIn_done (by kernel_rfl) ?_
          exact ⟨HN.out.2.from _, Or.inl ⟨rfl, Or.inl ⟨rfl, HN.out.1⟩⟩⟩
  case done =>
    rintro D O W hD ⟨ts, wv, g⟩ hK
    have c0 := (box_at g.gat.1 0 (by simp)).1
    simp only [List.getElem_toArray, List.getElem_cons_zero] at c0
    have hpn : ts.length = XS.length := by have := congrArg List.length g.texts; simpa using this
    obtain ⟨va, vc, rfl, -⟩ := g.gat.strs (fun t ht => by have := g.sizes t ht; unfold maxLen; omega) (by omega)
    have HG := hid_of g
    have HN := hid_of hpn
    have hDN : w1.heap.size ≤ D := by omega
    clear g hpn
    gi_wp2
    refine ⟨by simp, .inl ⟨_, _, rfl, run_takeDeferred hK, ?_⟩⟩
    refine ⟨_, results_tmp rfl _ _ _, ts, _, rfl, ?_, ?_, HG.out.sizes, by rw [HN.out]; exact hX24, hb1.trans ((HG.out.bel.mono hb1.size).trans (below_putObj _ _ (by have := hb1.size; omega)))⟩
    · have := (HG.out.gat.still (o' := .deferred none) hK rfl).2.1
      exact owns_low this hb1.size
    · rw [HE.out, HG.out.texts, HXS.out]
  case stop => exact fun D W _ h _ => h.elim
end Go.Proofs.YtmeopghhgpbhpaaDoor
