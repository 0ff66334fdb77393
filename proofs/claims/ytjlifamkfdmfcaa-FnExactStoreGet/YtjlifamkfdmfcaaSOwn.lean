/-
  A row of values that a call gathers itself.
-/
import Derived.Test.YtjlifamkfdmfcaaSCopyT
import Derived.Test.YtjlifamkfdmfcaaSOpen
import Derived.Deep.RegionLaw
import Derived.Deep.RegionHeld3
import Derived.Deep.DeepCutAuto
namespace Go.Proofs.Ytjlifamkfdmfcaa
set_option linter.unusedSimpArgs false
set_option linter.unusedVariables false
open Go.RowKit

/-- A call of a Go function, as one step of a region that draws its order. -/
theorem step_call {P : Program} {ops : Array Oper} {o : Oper} {a : Act} {w : World} {K : Act → World → Prop} {Q : Exit → Act → World → Prop} {E : Prop} (hg : o.guard = none) {f : FuncId} {vs : Array Value}
    (hex : (execOp a.eval o).run P w = .ok (.enter f vs) w) (hc : Calls P f vs w fun e w' => ∃ v, e = .returned v ∧ K (a.put o.dst v) w') :
    if Region.wanted o (yielded ops a.tmps) = true then Oper.wp P o a w K Q else E := by
  rw [if_pos (by simp [Region.wanted, hg])]
  unfold Oper.wp
  rw [hex, Oper.upon_enter]
  refine hc.mono ?_
  rintro e w' ⟨v, rfl, hK⟩
  exact hK

/-- A value that goes no deeper than so many levels, of at most 2097152 parts, its lists no longer than that. -/
def fit : Nat → V → Prop
  | 0, _ => False
  | f + 1, x => x.kids.length ≤ 2097152 ∧ (x.names.length ≤ 2097152 ∧ cntV x ≤ 2097152) ∧ ∀ i, i < x.kids.length → fit f (kth x.kids i)
theorem fit.cnt : ∀ {f : Nat} {x : V}, fit f x → cntV x ≤ 2097152
  | 0, _, h => h.elim
  | _ + 1, _, h => h.2.1.2

/-- A block of one value. -/
def Row5 (w : World) (b : Nat) (c0 c1 c2 c3 c4 : Value) : Prop := w.rowIs b 27 5 (fun i => if i = 0 then c0 else if i = 1 then c1 else if i = 2 then c2 else if i = 3 then c3 else c4)
theorem Row5.five {w : World} {b : Nat} {c0 c1 c2 c3 c4 : Value} (h : Row5 w b c0 c1 c2 c3 c4) : Five w b c0 c1 c2 c3 c4 :=
  ⟨h.cell (i := 0) (by omega), h.cell (i := 1) (by omega), h.cell (i := 2) (by omega), h.cell (i := 3) (by omega), h.cell (i := 4) (by omega)⟩
theorem Row5.frozen {w : World} {b : Nat} {c0 c1 c2 c3 c4 : Value} (h : Row5 w b c0 c1 c2 c3 c4) : ∀ i, w.frozen? ⟨b, i, none⟩ = false := fun i => World.rowIs.frozen h i
theorem Row5.lt {w : World} {b : Nat} {c0 c1 c2 c3 c4 : Value} (h : Row5 w b c0 c1 c2 c3 c4) : b < w.heap.size := World.rowIs.lt h
theorem Row5.of_block {w w' : World} {b : Nat} {c0 c1 c2 c3 c4 : Value} (h : Row5 w b c0 c1 c2 c3 c4) (e : w'.heap[b]? = w.heap[b]?) : Row5 w' b c0 c1 c2 c3 c4 := World.rowIs.of_block h e
theorem Row5.new (w : World) (c0 c1 c2 c3 c4 : Value) : Row5 (w.alloc (.cells #[c0, c1, c2, c3, c4] 27)) w.heap.size c0 c1 c2 c3 c4 :=
  World.rowIs_alloc w #[c0, c1, c2, c3, c4] 27 _ fun i hi => by
    have : i = 0 ∨ i = 1 ∨ i = 2 ∨ i = 3 ∨ i = 4 := by simp at hi; omega
    rcases this with rfl | rfl | rfl | rfl | rfl <;> rfl
theorem Row5.put {w : World} {b : Nat} {c0 c1 c2 c3 c4 : Value} (h : Row5 w b c0 c1 c2 c3 c4) (d0 d1 d2 d3 d4 : Value) : Row5 (put5 w b 0 d0 d1 d2 d3 d4) b d0 d1 d2 d3 d4 := by
  obtain ⟨G, hG, ⟨g0, g1, g2, g3, g4⟩, -⟩ := put5_row h 0 d0 d1 d2 d3 d4
  refine World.rowIs.congr hG fun i hi => ?_
  have : i = 0 ∨ i = 1 ∨ i = 2 ∨ i = 3 ∨ i = 4 := by omega
  rcases this with rfl | rfl | rfl | rfl | rfl
  · rw [if_pos rfl]; exact g0
  · simpa using g1
  · simpa using g2
  · simpa using g3
  · simpa using g4
theorem Row5.set4 {w : World} {b : Nat} {c0 c1 c2 c3 c4 : Value} (h : Row5 w b c0 c1 c2 c3 c4) (d : Value) : Row5 (w.setCell ⟨b, 4, none⟩ d) b c0 c1 c2 c3 d := by
  refine World.rowIs.congr (World.rowIs.set h 4 d) fun i hi => ?_
  have : i = 0 ∨ i = 1 ∨ i = 2 ∨ i = 3 ∨ i = 4 := by omega
  rcases this with rfl | rfl | rfl | rfl | rfl <;> simp

/-- What is gathered so far: a row of values of the call's own, each in memory of its own. -/
def OwnKids (w : World) (lo ob : Nat) (ks : List V) (k : Nat) (v : Value) (xs : List Value) : Prop :=
  w.ownsRow lo 27 5 v k xs ∧ v.ownBlock ≠ some ob ∧ ∀ i, i < k → Rep w (fun b => lo ≤ b ∧ b < w.heap.size ∧ b ≠ ob ∧ v.ownBlock ≠ some b) (kth ks i) (.agg #[xs.getD (i * 5) undef, xs.getD (i * 5 + 1) undef, xs.getD (i * 5 + 2) undef, xs.getD (i * 5 + 3) undef, xs.getD (i * 5 + 4) undef])

theorem OwnKids.nil (w : World) (lo ob : Nat) (ks : List V) : OwnKids w lo ob ks 0 (.slice none 0 0) [] := ⟨World.ownsRow_nil _ _ _ _, by simp [Value.ownBlock], fun i hi => by omega⟩

theorem OwnKids.step {wr w1 w3 : World} {lo ob : Nat} {ks : List V} {k : Nat} {v : Value} {xs : List Value} (h : OwnKids wr lo ob ks k v xs) (hlo : lo ≤ wr.heap.size) (hob : ob < wr.heap.size) (hb1 : Below wr.heap.size wr w1) {d0 d1 d2 d3 d4 : Value}
    (hrep : Rep w1 (fun b => wr.heap.size ≤ b ∧ b < w1.heap.size) (kth ks k) (.agg #[d0, d1, d2, d3, d4])) {o : Obj} {g cap : Nat}
    (hown : w3.ownsRow lo 27 5 (.slice (some ⟨g, 0, none⟩) (k + 1) cap) (k + 1) (xs ++ [d0, d1, d2, d3, d4])) (hgrow : (w1.alloc o).grownBy w3 v.ownBlock) (hat : v.ownBlock = some g ∨ g = w1.heap.size + 1) :
    OwnKids w3 lo ob ks (k + 1) (.slice (some ⟨g, 0, none⟩) (k + 1) cap) (xs ++ [d0, d1, d2, d3, d4]) ∧ (∀ b, b < wr.heap.size → v.ownBlock ≠ some b → w3.heap[b]? = wr.heap[b]?) ∧ w1.heap.size < w3.heap.size ∧ Below lo wr w3 := by
  have z1 := hb1.size
  have z3 := hgrow.size
  simp at z3
  have hgl : ∀ b, v.ownBlock = some b → b < wr.heap.size := fun b hb => (h.1.lt b hb).2
  have hsame : ∀ b, b < w1.heap.size → v.ownBlock ≠ some b → w3.heap[b]? = w1.heap[b]? := fun b hb hne => by
    rw [hgrow.block b (by simp; omega) (fun e => hne e.symm)]
    exact World.grownBy_alloc w1 o none |>.block b hb (by simp)
  have hxl := h.1.1
  refine ⟨⟨hown, ?_, fun i hi => ?_⟩, fun b hb hne => (hsame b (by omega) hne).trans (hb1.block b hb), by omega, hgrow.os.trans hb1.os, hgrow.tape.trans hb1.tape, hgrow.output.trans hb1.output, by omega, fun b hb => (hsame b (by omega) fun e => ?_).trans (hb1.block b (by omega))⟩
  · intro e
    have e' : g = ob := by simpa [Value.ownBlock] using e
    rcases hat with h1 | h1
    · exact h.2.1 (by rw [h1, e'])
    · omega
  · by_cases e : i = k
    · subst e
      have hg : ∀ j, (xs ++ [d0, d1, d2, d3, d4]).getD (i * 5 + j) undef = [d0, d1, d2, d3, d4].getD j undef := fun j => by
        rw [List.getD_eq_getElem?_getD, List.getElem?_append_right (by omega), List.getD_eq_getElem?_getD, hxl, show i * 5 + j - i * 5 = j by omega]
      have g0 := hg 0
      rw [Nat.add_zero] at g0
      rw [g0, hg 1, hg 2, hg 3, hg 4]
      refine (hrep.mono fun b hb => hsame b hb.2 fun e => ?_).sub fun b hb => ⟨by omega, by omega, by omega, fun e => ?_⟩
      · have := hgl b e; omega
      · have e' : g = b := by simpa [Value.ownBlock] using e
        rcases hat with h1 | h1
        · have := hgl g h1; omega
        · omega
    · have hik : i < k := by omega
      have hg : ∀ j, j < 5 → (xs ++ [d0, d1, d2, d3, d4]).getD (i * 5 + j) undef = xs.getD (i * 5 + j) undef := fun j hj => by
        rw [List.getD_eq_getElem?_getD, List.getElem?_append_left (by omega), List.getD_eq_getElem?_getD]
      have g0 := hg 0 (by omega)
      rw [Nat.add_zero] at g0
      rw [g0, hg 1 (by omega), hg 2 (by omega), hg 3 (by omega), hg 4 (by omega)]
      refine ((h.2.2 i hik).mono fun b hb => (hsame b (by omega) hb.2.2.2).trans (hb1.block b hb.2.1)).sub fun b hb => ⟨hb.1, by omega, hb.2.2.1, fun e => ?_⟩
      have e' : g = b := by simpa [Value.ownBlock] using e
      rcases hat with h1 | h1
      · exact hb.2.2.2 (by rw [h1, e'])
      · omega
  · have := (h.1.lt b e).1
    omega

theorem OwnKids.set {w : World} {lo ob : Nat} {ks : List V} {k : Nat} {v : Value} {xs : List Value} (h : OwnKids w lo ob ks k v xs) (o : Nat) (u : Value) : OwnKids (w.setCell ⟨ob, o, none⟩ u) lo ob ks k v xs := by
  refine ⟨h.1.kept (row := some ob) ⟨rfl, rfl, rfl, by rw [size_set]; exact Nat.le_refl _, fun b _ hne => Below.heap_setCell _ _ _ _ (fun e => hne (by rw [show b = ob from e]))⟩ (Or.inr h.2.1), h.2.1, fun i hi => ?_⟩
  refine ((h.2.2 i hi).mono fun b hb => Below.heap_setCell _ _ _ _ (fun e => hb.2.2.1 e)).sub fun b hb => ⟨hb.1, by rw [size_set]; exact hb.2.1, hb.2.2⟩

theorem OwnKids.kids {w : World} {lo ob : Nat} {ks : List V} {v : Value} {xs : List Value} (h : OwnKids w lo ob ks ks.length v xs) (hb : 80 * ks.length ≤ 281474976710656) :
    ∃ (ka : Option Addr) (kc : Nat), v = .slice ka ks.length kc ∧ Kids w (fun b => lo ≤ b ∧ b < w.heap.size ∧ b ≠ ob) ks ka := by
  obtain ⟨h1, h2, h3⟩ := h
  rcases h1.2 with ⟨rfl, h0⟩ | ⟨g, cap, cur, rfl, hlo, hg, _⟩
  · refine ⟨none, 0, by rw [h0], hb, 0, 0, fun _ _ => undef, fun hn => ?_, fun i hi => by omega, fun i hi => by omega⟩
    exact absurd (List.eq_nil_of_length_eq_zero h0) hn
  · have hlt : g < w.heap.size := (Array.getElem?_eq_some_iff.1 hg).1
    refine ⟨_, cap, rfl, hb, g, 0, fun i j => xs.getD (i * 5 + j) undef, fun _ => ⟨rfl, hlo, hlt, fun e => h2 (by rw [e]; rfl)⟩, fun i hi j hj => ?_, fun i hi => (h3 i hi).sub fun b hb => ⟨hb.1, hb.2.1, hb.2.2.1⟩⟩
    have hx := h1.1
    have := h1.cellAt (i * 5 + j) (by omega)
    show _ = some (xs.getD (i * 5 + j) undef)
    rw [Nat.zero_add, this, List.getD_eq_getElem?_getD, List.getElem?_eq_getElem (by omega)]
    rfl
theorem OwnKids.owns {wr w1 : World} {lo ob : Nat} {ks : List V} {k : Nat} {v : Value} {xs : List Value} (h : OwnKids wr lo ob ks k v xs) (hb1 : Below wr.heap.size wr w1) (o : Obj) : (w1.alloc o).ownsRow lo 27 5 v k xs :=
  (h.1.kept (row := none) ⟨hb1.os, hb1.tape, hb1.output, hb1.size, fun b hb _ => hb1.block b hb⟩ (by cases hv : v.ownBlock <;> simp)).alloc o

end Go.Proofs.Ytjlifamkfdmfcaa
