import Derived.Test.YtgcfgadkclfonaaGreatDoorJ7
namespace Go.Proofs.YtgcfgadkclfonaaGreatDoor
set_option linter.unusedSimpArgs false
set_option linter.unusedVariables false
open Go.RowKit Go.Shelf

/-- What looks at old blocks and at some blocks alone. -/
def LooksAt (N : Nat) (O : Nat → Prop) (p : World → Prop) : Prop := ∀ A B, p A → A.heap.size ≤ B.heap.size → B.os = A.os → B.tape = A.tape → B.output = A.output → (∀ b, b < A.heap.size → (b < N ∨ O b) → B.heap[b]? = A.heap[b]?) → p B
theorem LooksAt.grows {N : Nat} {O : Nat → Prop} {p : World → Prop} (h : LooksAt N O p) : Grows p := fun A B hA hb => h A B hA hb.size hb.os hb.tape hb.output fun b hlt _ => hb.block b hlt
theorem LooksAt.up {N M : Nat} {O : Nat → Prop} {p : World → Prop} (h : LooksAt N O p) (hn : N ≤ M) : LooksAt M O p := fun A B hA h1 h2 h3 h4 h5 => h A B hA h1 h2 h3 h4 fun b hb hN => h5 b hb (hN.imp (fun h => Nat.lt_of_lt_of_le h hn) id)
/-- Some blocks are cells. -/
def CellsIn (O : Nat → Prop) (A : World) : Prop := ∀ b, O b → ∃ o, A.heap[b]? = some o ∧ o.isCells = true
theorem CellsIn.lt {O : Nat → Prop} {A : World} (h : CellsIn O A) (b : Nat) (hb : O b) : b < A.heap.size := by
  obtain ⟨o, ho, -⟩ := h b hb
  exact (Array.getElem?_eq_some_iff.1 ho).1
theorem LooksAt.still {N : Nat} {O : Nat → Prop} {p : World → Prop} (h : LooksAt N O p) (hc : ∀ A, p A → CellsIn O A) : Still N p := fun A l o o' hA hl h1 h2 => h A _ hA (by simp) rfl rfl rfl fun b hb hN => by
  refine World.putObj_heap_other fun e => ?_
  subst e
  rcases hN with hN | hN
  · omega
  · obtain ⟨o2, h3, h4⟩ := hc A hA b hN
    rw [h1] at h3
    cases h3
    rw [h2] at h4
    cases h4

theorem range_stop2 {F : Fence} {n : Nat} {P : Program} {g : Operand} {ps : Array Tmp} {assign body : Code} {Q : Exit → Act → World → Prop} {a : Act} {w : World}
    (hro : F.round = none) (h1 : 1 ≤ n) {gf : Nat} {lb : Array Value} (hg : a.eval g = .func (.func gf) #[] lb) (hFg : F.fn gf) (eg : ∀ args w, (callFunc gf args).run P w = .ok (.enter gf args) w)
    {α : Type} (xs : List α) (Arg : List α → (Nat → Prop) → α → Array Value → World → Prop) (hps : ∀ pre O x ar A, Arg pre O x ar A → ar.size = ps.size)
    (I : List α → (Nat → Prop) → World → Prop) (hIl : ∀ pre O, LooksAt w.heap.size O (I pre O)) (hIc : ∀ pre O A, I pre O A → CellsIn O A)
    (Ix : World → Prop) (hXs : Still w.heap.size Ix)
    (O0 : Nat → Prop) (h0 : I [] O0 w)
    (hseq : ∀ (l : Nat) (J : List α → (Nat → Prop) → World → Prop) (Jx : World → Prop) (W : World), Below w.heap.size w W → (∀ pre O, LooksAt W.heap.size O (J pre O)) → Still W.heap.size Jx → (∀ pre O A, J pre O A → CellsIn O A) →
      (∀ pre O x ar A, J pre O A → Arg pre O x ar A → YieldAt F (n - 1 - 1) P l ar A fun e B => ∃ go, e = .returned (.bool go) ∧ Told J Jx O pre x A go B ∧ KeepsFrom W.heap.size A B) → J [] O0 W →
      CallsIn F (n - 1) P gf (#[.func (.yield l) #[] #[]] ++ lb) W fun e W' => (∃ v, e = .returned v) ∧ ((∃ O', J xs O' W') ∨ Jx W'))
    (Ax : List α → (Nat → Prop) → α → Array Value → Act → World → Prop) (hAs : ∀ pre O x ar a', Still w.heap.size (Ax pre O x ar a'))
    (hassign : ∀ (l : Nat) (pre : List α) (O : Nat → Prop) (x : α) (ar : Array Value) (A : World) (K : Act → World → Prop), Arg pre O x ar A → (∀ a' B, Below A.heap.size A B → Ax pre O x ar a' B → K a' B) →
      assign.wpIn (F.inRound l) (n - 1 - 1) P (Exit.then K (fun _ _ _ => False)) { tmps := (ps.zip ar).foldl (fun t (p, v) => t.setIfInBounds p v) a.tmps, defers := [] } A)
    (hbody : ∀ (l : Nat) (pre : List α) (O : Nat → Prop) (x : α) (ar : Array Value) (a' : Act) (A : World), I pre O A → Ax pre O x ar a' A →
      body.wpIn (F.inRound l) (n - 1 - 1) P (fun e _ B => KeepsFrom w.heap.size A B ∧ ((e = .normal ∧ Told I Ix O pre x A true B) ∨ (e = .ret ∧ Told I Ix O pre x A false B))) a' A)
    (hdone : ∀ (D : Nat) (O : Nat → Prop) (W : World), w.heap.size ≤ D → I xs O W → W.heap[D]? = some (.deferred (some [])) → Q .normal { a with defers := { target := .collected D, args := #[] } :: a.defers } W)
    (hstop : ∀ (D : Nat) (W : World), w.heap.size ≤ D → Ix W → W.heap[D]? = some (.deferred (some [])) → Code.ret.wpIn F n P Q { a with defers := { target := .collected D, args := #[] } :: a.defers } W) :
    (Code.rangeFunc g ps assign body).wpIn F n P Q a w := by
  have hIs : ∀ pre O, Still w.heap.size (I pre O) := fun pre O => (hIl pre O).still (hIc pre O)
  have hIg : ∀ pre O, Grows (I pre O) := fun pre O => (hIl pre O).grows
  refine wpIn_rangeFunc fun fn hfn => ?_
  rw [hro]
  obtain ⟨rec, hrec⟩ : ∃ rec : LoopState → Option Code → Loop, rec = fun st pe => { state := st, pending := pe, fn, tmps := a.tmps, params := ps, assign, body, defers := w.heap.size } := ⟨_, rfl⟩
  obtain ⟨X, hX⟩ : ∃ X, X = (w.alloc (.deferred (some []))).alloc (.loop (rec .ready none)) := ⟨_, rfl⟩
  have bX : Below w.heap.size w X := by rw [hX]; exact ((Below.refl _ w).alloc (Nat.le_refl _) _).alloc (by simp) _
  have zX : X.heap.size = w.heap.size + 2 := by rw [hX]; simp
  have lX : X.heap[w.heap.size + 1]? = some (.loop (rec .ready none)) := by
    rw [hX]; have := World.alloc_heap_new (w.alloc (.deferred (some []))) (.loop (rec .ready none)); rwa [World.size_alloc] at this
  have dX : X.heap[w.heap.size]? = some (.deferred (some [])) := by
    rw [hX]; exact (Below.heap_alloc _ _ _ (by simp)).trans (World.alloc_heap_new w _)
  refine ⟨w.heap.size + 1, [{ target := .collected w.heap.size, args := #[] }], X, { target := .fn (.func gf) lb, args := #[.func (.yield (w.heap.size + 1)) #[] #[]] }, X, gf,
    #[.func (.yield (w.heap.size + 1)) #[] #[]] ++ lb, X, ?_, ?_, ?_, ?_, fun _ => h1, ?_⟩
  · rw [hX, hrec]; exact run_enterLoop_outer _ _ _ _ _
  · simp only [resolve, hg]
    simp [go_sem]
  · intro f' hf'; simp [Target.leads] at hf'; subst hf'; exact hFg
  · simp [invoke, go_sem, eg]
  · have key : ∀ {A B : World}, Below A.heap.size A B → ∀ {b : Nat} {o : Obj}, A.heap[b]? = some o → B.heap[b]? = some o := by
      intro A B h b o hb
      exact (h.block b (Array.getElem?_eq_some_iff.1 hb).1).trans hb
    refine (hseq (w.heap.size + 1) (fun pre O W => I pre O W ∧ W.heap[w.heap.size + 1]? = some (.loop (rec .ready none)) ∧ W.heap[w.heap.size]? = some (.deferred (some [])))
      (fun W => Ix W ∧ W.heap[w.heap.size + 1]? = some (.loop (rec .done (some .ret))) ∧ W.heap[w.heap.size]? = some (.deferred (some []))) X bX
      (fun pre O A B h h1 h2 h3 h4 h5 => ⟨hIl pre O A B h.1 h1 h2 h3 h4 (fun b hb hN => h5 b hb (hN.imp (fun h => by omega) id)), (h5 _ (Array.getElem?_eq_some_iff.1 h.2.1).1 (Or.inl (by omega))).trans h.2.1, (h5 _ (Array.getElem?_eq_some_iff.1 h.2.2).1 (Or.inl (by omega))).trans h.2.2⟩)
      (fun A l' o o' h hl' ho1 ho2 => ⟨hXs A l' o o' h.1 (by have := bX.size; omega) ho1 ho2, (World.putObj_heap_other (by omega)).trans h.2.1, (World.putObj_heap_other (by omega)).trans h.2.2⟩) (fun pre O A h => hIc pre O A h.1) ?_ ⟨hIg [] O0 w X h0 bX, lX, dX⟩).mono ?_
    · rintro pre O x ar W ⟨hi, hl, hd⟩ harg
      have hy := run_yield (P := P) (args := ar) hl (by rw [hrec]; exact hps pre O x ar W harg)
      rw [hrec] at hy
      refine ⟨fn, _, assign, body, hy, roundIn_of_wpIn hfn (hassign _ pre O x ar W _ harg fun a' B hAB hax => ?_)⟩
      have lB := key hAB hl
      have dB := key hAB hd
      have hlt : w.heap.size + 1 < B.heap.size := (Array.getElem?_eq_some_iff.1 lB).1
      have hlt0 : w.heap.size < B.heap.size := by omega
      refine ⟨_, run_beginRound lB (by rw [hrec]), ?_⟩
      obtain ⟨Y, hY⟩ : ∃ Y, Y = B.putObj (w.heap.size + 1) (.loop { rec .ready none with state := .busy }) := ⟨_, rfl⟩
      have lY : Y.heap[w.heap.size + 1]? = some (.loop { rec .ready none with state := .busy }) := by rw [hY]; exact World.putObj_heap_same hlt
      have dY : Y.heap[w.heap.size]? = some (.deferred (some [])) := by rw [hY]; exact (World.putObj_heap_other (by omega)).trans dB
      have zY : Y.heap.size = B.heap.size := by rw [hY]; simp
      have kY : KeepO O W Y := by rw [hY]; exact (KeepO.below hAB).trans (KeepO.putObj lB rfl _)
      have iY : I pre O Y := by rw [hY]; exact hIs pre O _ _ _ _ (hIg pre O _ _ hi hAB) (by omega) lB rfl
      have aY : Ax pre O x ar a' Y := by rw [hY]; exact hAs pre O x ar a' _ _ _ _ hax (by omega) lB rfl
      rw [← hY]
      refine wpIn_mono (hbody _ pre O x ar a' Y iY aY) ?_
      rintro e a3 Z ⟨hk3, hp⟩
      have lZ := hk3.same _ _ (by omega) lY rfl
      have dZ := hk3.same _ _ (by omega) dY rfl
      have hzl : w.heap.size + 1 < Z.heap.size := (Array.getElem?_eq_some_iff.1 lZ).1
      have hkf : ∀ o', KeepsFrom X.heap.size W (Z.putObj (w.heap.size + 1) o') := fun o' => by
        refine ⟨by have := hAB.size; have := hk3.size; simp; omega, fun k o hk ho hc => ?_⟩
        rw [World.putObj_heap_other (by omega)]
        refine hk3.same k o (by omega) ?_ hc
        rw [hY, World.putObj_heap_other (by omega)]
        exact key hAB ho
      rcases hp with ⟨rfl, hT⟩ | ⟨rfl, hT⟩
      · rcases hT with ⟨-, O', i3, k3, o3⟩ | ⟨h, -⟩
        · have hr := run_endRound (P := P) none lZ
          refine ⟨_, _, hr, true, rfl, Or.inl ⟨rfl, O', ⟨hIs _ _ _ _ _ _ i3 (by omega) lZ rfl, ?_, (World.putObj_heap_other (by omega)).trans dZ⟩, (kY.trans k3).trans (KeepO.putObj lZ rfl _), fun b hb => (o3 b hb).imp id fun h => ?_⟩, hkf _⟩
          · rw [hrec]; exact World.putObj_heap_same hzl
          · have := hAB.size; omega
        · cases h
      · rcases hT with ⟨h, -⟩ | ⟨-, i3⟩
        · cases h
        · have hr := run_endRound (P := P) (some .ret) lZ
          refine ⟨_, _, hr, false, rfl, Or.inr ⟨rfl, hXs _ _ _ _ i3 (by omega) lZ rfl, ?_, (World.putObj_heap_other (by omega)).trans dZ⟩, hkf _⟩
          rw [hrec]; exact World.putObj_heap_same hzl
    · rintro e W ⟨⟨v, rfl⟩, hfin⟩
      rcases hfin with ⟨O', hi, hl, hd⟩ | ⟨hi, hl, hd⟩
      · exact ⟨none, _, by have := run_endLoop (P := P) hl (by rw [hrec]; simp); rw [hrec] at this; exact this, hdone w.heap.size O' _ (Nat.le_refl _) (hIs _ _ _ _ _ _ hi (by omega) hl rfl) ((World.putObj_heap_other (by omega)).trans hd)⟩
      · exact ⟨some .ret, _, by have := run_endLoop (P := P) hl (by rw [hrec]; simp); rw [hrec] at this; exact this, hstop w.heap.size _ (Nat.le_refl _) (hXs _ _ _ _ hi (by omega) hl rfl) ((World.putObj_heap_other (by omega)).trans hd)⟩
end Go.Proofs.YtgcfgadkclfonaaGreatDoor

namespace Go.Proofs.YtgcfgadkclfonaaGreatDoor
set_option linter.unusedSimpArgs false
set_option linter.unusedVariables false
open Go.RowKit Go.Shelf

theorem uponIn_round_of {l n : Nat} {P : Program} {o : Oper} {a : Act} {K K' : Act → World → Prop} {Q : Exit → Act → World → Prop} (hK : ∀ a w, K a w → K' a w) (r : Result Next) (h : o.upon P a K Q r) : o.uponIn (Fence.wide.inRound l) n P a K' Q r := by
  match r, h with
  | .ok (.value v) w', h => exact hK _ _ h
  | .ok .skip w', h => exact hK _ _ h
  | .ok (.defer d) w', h => exact hK _ _ h
  | .ok (.enter f args) w', h =>
    have h2 : CallsIn Fence.wide (n - 1) P f args w' _ := callsIn_wide.2 h
    refine ⟨(fun h => by cases h), h2.mono ?_⟩
    intro e w'' he
    cases e with
    | returned v => exact hK _ _ he
    | panicked c => exact he
    | outgrown => exact he
  | .ok (.row row args) w', h =>
    refine ⟨(fun h => by cases h), fun c cs _ => ?_⟩
    obtain ⟨v, w2, r, s⟩ := h c cs
    exact ⟨v, w2, hK _ _ r, stepsIn_wide.2 s⟩
  | .halt (.panic v) w', h => exact h
theorem any_round {l n : Nat} {P : Program} {md : Region.Mode} {ops : Array Oper} {Q : Exit → Act → World → Prop} (hL : ¬ LetsOut Q) (hd : ∀ (i : Nat) (o : Oper) c, ops[i]? = some o → o.op ≠ .defer c) :
    ∀ (fuel : Nat) (listed : Array Bool) (a : Act) (w : World), wpAny P md ops Q fuel listed a w → wpAnyIn (Fence.wide.inRound l) n P md ops Q fuel listed a w
  | 0, _, _, _, h => h
  | fuel + 1, listed, a, w, h => ⟨h.1, fun i hi => by
    have h2 := h.2 i hi
    unfold wpOp at h2
    unfold wpOpIn
    cases ho : ops[i]? with
    | none =>
      simp only [ho] at h2 ⊢
      exact any_round hL hd fuel _ _ _ h2
    | some o =>
      simp only [ho] at h2 ⊢
      by_cases hw : Region.wanted o (yielded ops a.tmps) = true
      · rw [if_pos hw] at h2 ⊢
        rcases h2 with h2 | h2
        · refine ⟨fun f _ => trivial, ?_⟩
          rw [Fence.inRound_round, Oper.semAt_some l _ _ (fun c => hd i o c ho)]
          exact uponIn_round_of (fun a w h => any_round hL hd fuel _ a w h) _ h2
        · exact absurd h2.2 hL
      · rw [if_neg hw] at h2 ⊢
        exact ⟨fun f _ => trivial, any_round hL hd fuel _ _ _ h2⟩⟩
/-- An operation that defers. -/
def isDef : Op → Bool
  | .defer _ => true
  | _ => false
theorem noDef {ops : Array Oper} (h : (ops.toList.all fun o => !isDef o.op) = true) (i : Nat) (o : Oper) (c : Call) (ho : ops[i]? = some o) : o.op ≠ .defer c := fun e => by
  have hm : o ∈ ops.toList := by
    obtain ⟨hi, rfl⟩ := Array.getElem?_eq_some_iff.1 ho
    exact Array.mem_toList_iff.2 (Array.getElem_mem hi)
  have := List.all_eq_true.1 h o hm
  rw [e] at this
  simp [isDef] at this
/-- A region that draws, within a round. -/
theorem region_round {l n : Nat} {P : Program} {id : Nat} {ops : Array Oper} {Q : Exit → Act → World → Prop} {a : Act} {w : World} (S : World → Prop) (hm : P.follows .mixedOrders = true) (hL : ¬ LetsOut Q) (hd : (ops.toList.all fun o => !isDef o.op) = true) (hS : S w.drew)
    (h : S w.drew → wpAnyH P .any ops Q S ops.size (Array.replicate ops.size false) a w.drew) : (Code.region id ops true).wpIn (Fence.wide.inRound l) n P Q a w :=
  wpIn_region_any hm (any_round hL (fun i o c ho => noDef hd i o c ho) _ _ _ _ (wpAny_of_held _ _ _ _ (h hS)))
end Go.Proofs.YtgcfgadkclfonaaGreatDoor
