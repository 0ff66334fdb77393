/-
  A range over a function that runs to its end, where the function keeps cells of its own between two rounds: the caller's rounds change one block of cells alone; what the caller knows hangs on blocks that lay ahead of the loop.
-/
import Derived.Test.YtahelconmfldjaaQDepth
import Derived.RangeFuncNested
import Derived.RangeFuncBound
import Derived.RangeFuncCalls
import Derived.RangeFuncLeaves
import Derived.Shelf.Abstract
import Derived.Shelf.RegionOpen
import Derived.OwnWalkIn
import Derived.TacticsInMore
import Derived.LoopNIn
import Derived.LoopIn
namespace Go.Proofs.Ytahelconmfldjaa
set_option linter.unusedSimpArgs false
set_option linter.unusedVariables false
open Go.RowKit Go.Shelf

theorem below_putObj {B l : Nat} (W : World) (o : Obj) (h : B ≤ l) : Below B W (W.putObj l o) := ⟨rfl, rfl, rfl, by simp, fun k hk => World.putObj_heap_other (by omega)⟩
/-- All that lies ahead of a block stays, and all cells but that block's. -/
structure KeepBut (bx : Nat) (W W' : World) : Prop where
  below : Below bx W W'
  cells : ∀ b o, b ≠ bx → W.heap[b]? = some o → o.isCells = true → W'.heap[b]? = some o
theorem KeepBut.trans {bx : Nat} {A B C : World} (h : KeepBut bx A B) (k : KeepBut bx B C) : KeepBut bx A C := ⟨h.below.trans k.below, fun b o hb h1 h2 => k.cells b o hb (h.cells b o hb h1 h2) h2⟩
theorem KeepBut.putObj {bx l : Nat} {W : World} {o : Obj} (hl : bx ≤ l) (h : W.heap[l]? = some o) (ho : o.isCells = false) (o' : Obj) : KeepBut bx W (W.putObj l o') := ⟨below_putObj _ _ hl, fun b o2 hb h1 h2 => by
  have hne : b ≠ l := by intro e; rw [e, h] at h1; cases h1; rw [ho] at h2; cases h2
  exact (World.putObj_heap_other hne).trans h1⟩
theorem KeepBut.row {bx b L : Nat} {e : TypeId} {G : Nat → Value} {W W' : World} (h : KeepBut bx W W') (hb : b ≠ bx) (hr : W.rowIs b e L G) : W'.rowIs b e L G := by
  obtain ⟨c, hc, h1, h2⟩ := hr
  exact ⟨c, h.cells b _ hb hc rfl, h1, h2⟩

/-- The loop, from the iterator's word (it runs through, if each round says that it goes on) and one walk of the body. -/
theorem range_full {F : Fence} {n : Nat} {P : Program} {g : Operand} {ps : Array Tmp} {assign body : Code} {Q : Exit → Act → World → Prop} {a : Act} {w : World}
    (hro : F.round = none) (h1 : 1 ≤ n) {gf : Nat} {lb : Array Value} (hg : a.eval g = .func (.func gf) #[] lb) (hFg : F.fn gf) (eg : ∀ args w, (callFunc gf args).run P w = .ok (.enter gf args) w)
    (bx N : Nat) (hbx : bx ≤ w.heap.size) (encs : Nat → Array Value) (hps : ∀ i, (encs i).size = ps.size)
    (hseq : ∀ (l : Nat) (J : Nat → World → Prop) (W : World), Below w.heap.size w W → w.heap.size < W.heap.size → (∀ i A B, J i A → Below W.heap.size A B → J i B) →
      (∀ i A, J i A → i < N → YieldAt F (n - 1 - 1) P l (encs i) A fun e B => e = .returned (.bool true) ∧ J (i + 1) B ∧ KeepBut bx A B) → J 0 W →
      CallsIn F (n - 1) P gf (#[.func (.yield l) #[] #[]] ++ lb) W fun e W' => (∃ v, e = .returned v) ∧ J N W')
    (I : Nat → World → Prop) (hI : ∀ i A B, I i A → Below w.heap.size A B → I i B) (h0 : I 0 w) (a₁ : Nat → Act)
    (hassign : ∀ (l i : Nat) (W : World) (K : Act → World → Prop), K (a₁ i) W →
      assign.wpIn (F.inRound l) (n - 1 - 1) P (Exit.then K (fun _ _ _ => False)) { tmps := (ps.zip (encs i)).foldl (fun t (p, v) => t.setIfInBounds p v) a.tmps, defers := [] } W)
    (hbody : ∀ (l i : Nat) (W : World), I i W → i < N → body.wpIn (F.inRound l) (n - 1 - 1) P (fun e _ W' => e = .normal ∧ KeepsOthers W W' ∧ KeepBut bx W W' ∧ I (i + 1) W') (a₁ i) W)
    (hdone : ∀ (D : Nat) (W : World), w.heap.size ≤ D → I N W → W.heap[D]? = some (.deferred (some [])) → Q .normal { a with defers := { target := .collected D, args := #[] } :: a.defers } W) :
    (Code.rangeFunc g ps assign body).wpIn F n P Q a w := by
  refine wpIn_rangeFunc fun fn hfn => ?_
  rw [hro]
  obtain ⟨mk, hmk⟩ : ∃ mk : LoopState → Loop, mk = fun st => { state := st, pending := none, fn, tmps := a.tmps, params := ps, assign, body, defers := w.heap.size } := ⟨_, rfl⟩
  obtain ⟨X, hX⟩ : ∃ X, X = (w.alloc (.deferred (some []))).alloc (.loop (mk .ready)) := ⟨_, rfl⟩
  have zX : X.heap.size = w.heap.size + 1 + 1 := by rw [hX]; simp
  have bX : Below w.heap.size w X := by rw [hX]; exact ((Below.refl _ w).alloc (Nat.le_refl _) _).alloc (by simp) _
  have lX : X.heap[w.heap.size + 1]? = some (.loop (mk .ready)) := by
    rw [hX]; have := World.alloc_heap_new (w.alloc (.deferred (some []))) (.loop (mk .ready)); rwa [World.size_alloc] at this
  have dX : X.heap[w.heap.size]? = some (.deferred (some [])) := by
    rw [hX]; exact (Below.heap_alloc _ _ _ (by simp)).trans (World.alloc_heap_new w _)
  refine ⟨w.heap.size + 1, [{ target := .collected w.heap.size, args := #[] }], X, { target := .fn (.func gf) lb, args := #[.func (.yield (w.heap.size + 1)) #[] #[]] }, X, gf,
    #[.func (.yield (w.heap.size + 1)) #[] #[]] ++ lb, X, ?_, ?_, ?_, ?_, fun _ => h1, ?_⟩
  · rw [hX, hmk]; exact run_enterLoop_outer _ _ _ _ _
  · simp only [resolve, hg]
    simp [go_sem]
  · intro f' hf'; simp [Target.leads] at hf'; subst hf'; exact hFg
  · simp [invoke, go_sem, eg]
  · refine (hseq (w.heap.size + 1) (fun i W => I i W ∧ W.heap[w.heap.size + 1]? = some (.loop (mk .ready)) ∧ W.heap[w.heap.size]? = some (.deferred (some []))) X bX (by omega)
      (fun i A B h hb => ⟨hI i A B h.1 (hb.mono (by omega)), (hb.block _ (by omega)).trans h.2.1, (hb.block _ (by omega)).trans h.2.2⟩) ?_ ⟨hI 0 _ _ h0 bX, lX, dX⟩).mono ?_
    · rintro i W ⟨hi, hl, hd⟩ hN
      have hlt : w.heap.size + 1 < W.heap.size := (Array.getElem?_eq_some_iff.1 hl).1
      have hy := run_yield (P := P) (args := encs i) hl (by rw [hmk]; exact hps i)
      rw [hmk] at hy
      refine ⟨fn, _, assign, body, hy, roundIn_of_wpIn hfn (hassign _ i W _ ⟨_, run_beginRound hl (by rw [hmk]), ?_⟩)⟩
      obtain ⟨Y, hY⟩ : ∃ Y, Y = W.putObj (w.heap.size + 1) (.loop { mk .ready with state := .busy }) := ⟨_, rfl⟩
      have lY : Y.heap[w.heap.size + 1]? = some (.loop { mk .ready with state := .busy }) := by rw [hY]; exact World.putObj_heap_same hlt
      have dY : Y.heap[w.heap.size]? = some (.deferred (some [])) := by rw [hY]; exact (World.putObj_heap_other (by omega)).trans hd
      have kY : KeepBut bx W Y := by rw [hY]; exact KeepBut.putObj (by omega) hl rfl _
      have iY : I i Y := by rw [hY]; exact hI i _ _ hi (below_putObj _ _ (by omega))
      rw [← hY]
      refine wpIn_mono (hbody _ i Y iY hN) ?_
      rintro e a3 Z ⟨rfl, hk3, hb3, hi3⟩
      have lZ := hk3.same _ _ lY rfl
      have hr := run_endRound (P := P) none lZ
      refine ⟨_, _, hr, rfl, ⟨hI _ _ _ hi3 (below_putObj _ _ (by omega)), ?_, (World.putObj_heap_other (by omega)).trans (hk3.same _ _ dY rfl)⟩, (kY.trans hb3).trans (KeepBut.putObj (by omega) lZ rfl _)⟩
      rw [hmk]
      exact World.putObj_heap_same (Array.getElem?_eq_some_iff.1 lZ).1
    · rintro e W ⟨⟨v, rfl⟩, hi, hl, hd⟩
      exact ⟨none, _, by have := run_endLoop (P := P) hl (by rw [hmk]; simp); rw [hmk] at this; exact this, hdone w.heap.size _ (Nat.le_refl _) (hI _ _ _ hi (below_putObj _ _ (by omega))) ((World.putObj_heap_other (by omega)).trans hd)⟩
end Go.Proofs.Ytahelconmfldjaa
