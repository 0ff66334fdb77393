/-
  Boxes: blocks of cells that a call makes.
-/
import Derived.Test.YtpgcjdaahgfhgaaDoorQBase
namespace Go.Proofs.YtpgcjdaahgfhgaaDoor
set_option linter.unusedSimpArgs false
set_option linter.unusedVariables false
open Go.RowKit

theorem hid_of {q : Prop} (h : q) : Hid q := h
theorem box_at {W : World} {b : Nat} {cs : Array Value} {T : TypeId} (h : W.heap[b]? = some (.cells cs T (0, 0))) (i : Nat) (hi : i < cs.size) : W.cell? ⟨b, i, none⟩ = some cs[i] ∧ W.frozen? ⟨b, i, none⟩ = false := by
  refine ⟨?_, frozen_of_row W b i cs T h⟩
  rw [cell_of_row W b i cs T (0, 0) h]
  simp [hi]
theorem block_new {w : World} {N : Nat} (c : Array Value) (T : TypeId) (h : w.heap.size = N) : (w.alloc (.cells c T)).heap[N]? = some (.cells c T (0, 0)) := by subst h; exact heap_alloc_new w _
theorem block_old {w : World} {N : Nat} {x : Option Obj} (o : Obj) (h : w.heap[N]? = x) (hn : N < w.heap.size) : (w.alloc o).heap[N]? = x := ((below_box w o).block N hn).trans h
theorem set_box {w : World} {N : Nat} {cs : Array Value} {T : TypeId} (h : w.heap[N]? = some (.cells cs T (0, 0))) (i : Nat) (d : Value) : (w.setCell ⟨N, i, none⟩ d).heap[N]? = some (.cells (cs.setIfInBounds i d) T (0, 0)) := by
  show (w.heap.modify N _)[N]? = _
  rw [Array.getElem?_modify]
  simp [h]
end Go.Proofs.YtpgcjdaahgfhgaaDoor
