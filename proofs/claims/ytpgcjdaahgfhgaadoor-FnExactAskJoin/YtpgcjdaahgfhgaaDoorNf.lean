/-
  From a block on nothing is frozen: what the laws' copies make may be written. toStringS, once more.
-/
import Derived.Test.YtpgcjdaahgfhgaaDoorCopyS
import Derived.RowKit3
namespace Go.Proofs.YtpgcjdaahgfhgaaDoor
set_option linter.unusedSimpArgs false
set_option linter.unusedVariables false
open Go.RowKit

/-- From a block on nothing is frozen. -/
def NF (lo : Nat) (w : World) : Prop := ∀ a : Addr, lo ≤ a.block → w.frozen? a = false
theorem NF.new (w : World) : NF w.heap.size w := fun a h => by simp [World.frozen?, Array.getElem?_eq_none h]
theorem NF.alloc {lo : Nat} {w : World} (h : NF lo w) (c : Array Value) (t : TypeId) : NF lo (w.alloc (.cells c t)) := fun a ha => by rw [frozen?_alloc_cells]; exact h a ha
theorem NF.set {lo : Nat} {w : World} (h : NF lo w) (p : Addr) (v : Value) : NF lo (w.setCell p v) := fun a ha => by rw [World.frozen?_setCell]; exact h a ha
theorem NF.puts {lo : Nat} : ∀ {w : World} (h : NF lo w) (N k : Nat) (cs : List Value), NF lo (puts w N k cs)
  | w, h, N, k, [] => h
  | w, h, N, k, c :: cs => NF.puts (h.set ⟨N, k, none⟩ c) N (k + 1) cs
theorem NF.call {lo : Nat} {w w' : World} (h : NF lo w) (hb : Below w.heap.size w w') (h' : NF w.heap.size w') : NF lo w' := fun a ha => by
  rcases Nat.lt_or_ge a.block w.heap.size with h1 | h1
  · rw [hb.frozen h1]; exact h a ha
  · exact h' a h1
theorem NF.three (w : World) (c1 c2 c3 : Array Value) (t1 t2 t3 : TypeId) : NF w.heap.size (((w.alloc (.cells c1 t1)).alloc (.cells c2 t2)).alloc (.cells c3 t3)) := (((NF.new w).alloc c1 t1).alloc c2 t2).alloc c3 t3
end Go.Proofs.YtpgcjdaahgfhgaaDoor
