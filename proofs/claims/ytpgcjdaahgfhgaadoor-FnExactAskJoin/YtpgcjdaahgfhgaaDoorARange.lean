/-
  A range over a function whose rounds may say 'no more' by a return; the function keeps cells of its own between two rounds: a round changes only what the caller owns.
-/
import Derived.Test.YtpgcjdaahgfhgaaDoorABase
import Derived.RangeFuncNested
import Derived.RangeFuncBound
import Derived.RangeFuncCalls
import Derived.RangeFuncLeaves
import Derived.Shelf.Abstract
import Derived.Shelf.RegionOpen
import Derived.OwnWalkIn
import Derived.TacticsInMore
import Derived.LoopNIn
import Derived.LoopIn
namespace Go.Proofs.YtpgcjdaahgfhgaaDoor
set_option linter.unusedSimpArgs false
set_option linter.unusedVariables false
open Go.RowKit Go.Shelf

theorem below_putObj {B l : Nat} (W : World) (o : Obj) (h : B ≤ l) : Below B W (W.putObj l o) := ⟨rfl, rfl, rfl, by simp, fun k hk => World.putObj_heap_other (by omega)⟩
/-- All cells stay but those of some blocks. -/
structure KeepO (O : Nat → Prop) (A B : World) : Prop where
  size : A.heap.size ≤ B.heap.size
  cells : ∀ b o, ¬ O b → A.heap[b]? = some o → o.isCells = true → B.heap[b]? = some o
theorem KeepO.refl (O : Nat → Prop) (A : World) : KeepO O A A := ⟨Nat.le_refl _, fun _ _ _ h _ => h⟩
theorem KeepO.trans {O : Nat → Prop} {A B C : World} (h : KeepO O A B) (k : KeepO O B C) : KeepO O A C := ⟨Nat.le_trans h.size k.size, fun b o hb h1 h2 => k.cells b o hb (h.cells b o hb h1 h2) h2⟩
theorem KeepO.below {O : Nat → Prop} {A B : World} (h : Below A.heap.size A B) : KeepO O A B := ⟨h.size, fun b o _ h1 _ => (h.block b (Array.getElem?_eq_some_iff.1 h1).1).trans h1⟩
theorem KeepO.putObj {O : Nat → Prop} {l : Nat} {W : World} {o : Obj} (h : W.heap[l]? = some o) (ho : o.isCells = false) (o' : Obj) : KeepO O W (W.putObj l o') := ⟨by simp, fun b o2 hb h1 h2 => by
  have hne : b ≠ l := by intro e; rw [e, h] at h1; cases h1; rw [ho] at h2; cases h2
  exact (World.putObj_heap_other hne).trans h1⟩
/-- What a turn of the loop's own record leaves as it was. -/
def Still (lo : Nat) (p : World → Prop) : Prop := ∀ A l o o', p A → lo ≤ l → A.heap[l]? = some o → o.isCells = false → p (A.putObj l o')
/-- What new blocks leave ar it was. -/
def Grows (p : World → Prop) : Prop := ∀ A B, p A → Below A.heap.size A B → p B
/-- How a round ends: the caller's word goes on by one, or it has said 'no more'. -/
def Told {α : Type} (I : List α → (Nat → Prop) → World → Prop) (Ix : World → Prop) (O : Nat → Prop) (pre : List α) (x : α) (A : World) (go : Bool) (B : World) : Prop :=
  (go = true ∧ ∃ O', I (pre ++ [x]) O' B ∧ KeepO O A B ∧ ∀ b, O' b → O b ∨ A.heap.size ≤ b) ∨ (go = false ∧ Ix B)

theorem range_stop {F : Fence} {n : Nat} {P : Program} {g : Operand} {ps : Array Tmp} {assign body : Code} {Q : Exit → Act → World → Prop} {a : Act} {w : World}
    (hro : F.round = none) (h1 : 1 ≤ n) {gf : Nat} {lb : Array Value} (hg : a.eval g = .func (.func gf) #[] lb) (hFg : F.fn gf) (eg : ∀ args w, (callFunc gf args).run P w = .ok (.enter gf args) w)
    {α : Type} (xs : List α) (Arg : List α → α → Array Value → World → Prop) (hps : ∀ pre x ar A, Arg pre x ar A → ar.size = ps.size)
    (I : List α → (Nat → Prop) → World → Prop) (hIs : ∀ pre O, Still w.heap.size (I pre O)) (hIg : ∀ pre O, Grows (I pre O)) (hIO : ∀ pre O A, I pre O A → ∀ b, O b → b < A.heap.size)
    (Ix : World → Prop) (hXs : Still w.heap.size Ix)
    (O0 : Nat → Prop) (h0 : I [] O0 w)
    (hseq : ∀ (l : Nat) (J : List α → (Nat → Prop) → World → Prop) (Jx : World → Prop) (W : World), Below w.heap.size w W → (∀ pre O, Grows (J pre O)) → (∀ pre O A, J pre O A → ∀ b, O b → b < A.heap.size) →
      (∀ pre O x ar A, J pre O A → Arg pre x ar A → YieldAt F (n - 1 - 1) P l ar A fun e B => ∃ go, e = .returned (.bool go) ∧ Told J Jx O pre x A go B) → J [] O0 W →
      CallsIn F (n - 1) P gf (#[.func (.yield l) #[] #[]] ++ lb) W fun e W' => (∃ v, e = .returned v) ∧ ((∃ O', J xs O' W') ∨ Jx W'))
    (Ax : List α → α → Array Value → Act → World → Prop) (hAs : ∀ pre x ar a', Still w.heap.size (Ax pre x ar a'))
    (hassign : ∀ (l : Nat) (pre : List α) (x : α) (ar : Array Value) (A : World) (K : Act → World → Prop), Arg pre x ar A → (∀ a' B, Below A.heap.size A B → Ax pre x ar a' B → K a' B) →
      assign.wpIn (F.inRound l) (n - 1 - 1) P (Exit.then K (fun _ _ _ => False)) { tmps := (ps.zip ar).foldl (fun t (p, v) => t.setIfInBounds p v) a.tmps, defers := [] } A)
    (hbody : ∀ (l : Nat) (pre : List α) (O : Nat → Prop) (x : α) (ar : Array Value) (a' : Act) (A : World), I pre O A → Ax pre x ar a' A →
      body.wpIn (F.inRound l) (n - 1 - 1) P (fun e _ B => KeepsFrom w.heap.size A B ∧ ((e = .normal ∧ Told I Ix O pre x A true B) ∨ (e = .ret ∧ Told I Ix O pre x A false B))) a' A)
    (hdone : ∀ (D : Nat) (O : Nat → Prop) (W : World), w.heap.size ≤ D → I xs O W → W.heap[D]? = some (.deferred (some [])) → Q .normal { a with defers := { target := .collected D, args := #[] } :: a.defers } W)
    (hstop : ∀ (D : Nat) (W : World), w.heap.size ≤ D → Ix W → W.heap[D]? = some (.deferred (some [])) → Code.ret.wpIn F n P Q { a with defers := { target := .collected D, args := #[] } :: a.defers } W) :
    (Code.rangeFunc g ps assign body).wpIn F n P Q a w := by
  refine wpIn_rangeFunc fun fn hfn => ?_
  rw [hro]
  obtain ⟨rec, hrec⟩ : ∃ rec : LoopState → Option Code → Loop, rec = fun st pe => { state := st, pending := pe, fn, tmps := a.tmps, params := ps, assign, body, defers := w.heap.size } := ⟨_, rfl⟩
  obtain ⟨X, hX⟩ : ∃ X, X = (w.alloc (.deferred (some []))).alloc (.loop (rec .ready none)) := ⟨_, rfl⟩
  have bX : Below w.heap.size w X := by rw [hX]; exact ((Below.refl _ w).alloc (Nat.le_refl _) _).alloc (by simp) _
  have lX : X.heap[w.heap.size + 1]? = some (.loop (rec .ready none)) := by
    rw [hX]; have := World.alloc_heap_new (w.alloc (.deferred (some []))) (.loop (rec .ready none)); rwa [World.size_alloc] at this
  have dX : X.heap[w.heap.size]? = some (.deferred (some [])) := by
    rw [hX]; exact (Below.heap_alloc _ _ _ (by simp)).trans (World.alloc_heap_new w _)
  refine ⟨w.heap.size + 1, [{ target := .collected w.heap.size, args := #[] }], X, { target := .fn (.func gf) lb, args := #[.func (.yield (w.heap.size + 1)) #[] #[]] }, X, gf,
    #[.func (.yield (w.heap.size + 1)) #[] #[]] ++ lb, X, ?_, ?_, ?_, ?_, fun _ => h1, ?_⟩
  · rw [hX, hrec]; exact run_enterLoop_outer _ _ _ _ _
  · simp only [resolve, hg]
    simp [go_sem]
  · intro f' hf'; simp [Target.leads] at hf'; subst hf'; exact hFg
  · simp [invoke, go_sem, eg]
  · have key : ∀ {A B : World}, Below A.heap.size A B → ∀ {b : Nat} {o : Obj}, A.heap[b]? = some o → B.heap[b]? = some o := by
      intro A B h b o hb
      exact (h.block b (Array.getElem?_eq_some_iff.1 hb).1).trans hb
    refine (hseq (w.heap.size + 1) (fun pre O W => I pre O W ∧ W.heap[w.heap.size + 1]? = some (.loop (rec .ready none)) ∧ W.heap[w.heap.size]? = some (.deferred (some [])))
      (fun W => Ix W ∧ W.heap[w.heap.size + 1]? = some (.loop (rec .done (some .ret))) ∧ W.heap[w.heap.size]? = some (.deferred (some []))) X bX
      (fun pre O A B h hb => ⟨hIg pre O A B h.1 hb, key hb h.2.1, key hb h.2.2⟩) (fun pre O A h => hIO pre O A h.1) ?_ ⟨hIg [] O0 w X h0 bX, lX, dX⟩).mono ?_
    · rintro pre O x ar W ⟨hi, hl, hd⟩ harg
      have hy := run_yield (P := P) (args := ar) hl (by rw [hrec]; exact hps pre x ar W harg)
      rw [hrec] at hy
      refine ⟨fn, _, assign, body, hy, roundIn_of_wpIn hfn (hassign _ pre x ar W _ harg fun a' B hAB hax => ?_)⟩
      have lB := key hAB hl
      have dB := key hAB hd
      have hlt : w.heap.size + 1 < B.heap.size := (Array.getElem?_eq_some_iff.1 lB).1
      have hlt0 : w.heap.size < B.heap.size := by omega
      refine ⟨_, run_beginRound lB (by rw [hrec]), ?_⟩
      obtain ⟨Y, hY⟩ : ∃ Y, Y = B.putObj (w.heap.size + 1) (.loop { rec .ready none with state := .busy }) := ⟨_, rfl⟩
      have lY : Y.heap[w.heap.size + 1]? = some (.loop { rec .ready none with state := .busy }) := by rw [hY]; exact World.putObj_heap_same hlt
      have dY : Y.heap[w.heap.size]? = some (.deferred (some [])) := by rw [hY]; exact (World.putObj_heap_other (by omega)).trans dB
      have zY : Y.heap.size = B.heap.size := by rw [hY]; simp
      have kY : KeepO O W Y := by rw [hY]; exact (KeepO.below hAB).trans (KeepO.putObj lB rfl _)
      have iY : I pre O Y := by rw [hY]; exact hIs pre O _ _ _ _ (hIg pre O _ _ hi hAB) (by omega) lB rfl
      have aY : Ax pre x ar a' Y := by rw [hY]; exact hAs pre x ar a' _ _ _ _ hax (by omega) lB rfl
      rw [← hY]
      refine wpIn_mono (hbody _ pre O x ar a' Y iY aY) ?_
      rintro e a3 Z ⟨hk3, hp⟩
      have lZ := hk3.same _ _ (by omega) lY rfl
      have dZ := hk3.same _ _ (by omega) dY rfl
      have hzl : w.heap.size + 1 < Z.heap.size := (Array.getElem?_eq_some_iff.1 lZ).1
      rcases hp with ⟨rfl, hT⟩ | ⟨rfl, hT⟩
      · rcases hT with ⟨-, O', i3, k3, o3⟩ | ⟨h, -⟩
        · have hr := run_endRound (P := P) none lZ
          refine ⟨_, _, hr, true, rfl, Or.inl ⟨rfl, O', ⟨hIs _ _ _ _ _ _ i3 (by omega) lZ rfl, ?_, (World.putObj_heap_other (by omega)).trans dZ⟩, (kY.trans k3).trans (KeepO.putObj lZ rfl _), fun b hb => (o3 b hb).imp id fun h => ?_⟩⟩
          · rw [hrec]; exact World.putObj_heap_same hzl
          · have := hAB.size; omega
        · cases h
      · rcases hT with ⟨h, -⟩ | ⟨-, i3⟩
        · cases h
        · have hr := run_endRound (P := P) (some .ret) lZ
          refine ⟨_, _, hr, false, rfl, Or.inr ⟨rfl, hXs _ _ _ _ i3 (by omega) lZ rfl, ?_, (World.putObj_heap_other (by omega)).trans dZ⟩⟩
          rw [hrec]; exact World.putObj_heap_same hzl
    · rintro e W ⟨⟨v, rfl⟩, hfin⟩
      rcases hfin with ⟨O', hi, hl, hd⟩ | ⟨hi, hl, hd⟩
      · exact ⟨none, _, by have := run_endLoop (P := P) hl (by rw [hrec]; simp); rw [hrec] at this; exact this, hdone w.heap.size O' _ (Nat.le_refl _) (hIs _ _ _ _ _ _ hi (by omega) hl rfl) ((World.putObj_heap_other (by omega)).trans hd)⟩
      · exact ⟨some .ret, _, by have := run_endLoop (P := P) hl (by rw [hrec]; simp); rw [hrec] at this; exact this, hstop w.heap.size _ (Nat.le_refl _) (hXs _ _ _ _ hi (by omega) hl rfl) ((World.putObj_heap_other (by omega)).trans hd)⟩
end Go.Proofs.YtpgcjdaahgfhgaaDoor
