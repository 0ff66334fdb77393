/-
  Five cells of a block.
-/
import Derived.Test.YtjlifamkfdmfcaaCopyS
namespace Go.Proofs.Ytjlifamkfdmfcaa
set_option linter.unusedSimpArgs false
set_option linter.unusedVariables false
open Go.RowKit

/-- Five cells of a block. -/
def Five (w : World) (N : Nat) (c0 c1 c2 c3 c4 : Value) : Prop :=
  w.cell? ⟨N, 0, none⟩ = some c0 ∧ w.cell? ⟨N, 1, none⟩ = some c1 ∧ w.cell? ⟨N, 2, none⟩ = some c2 ∧ w.cell? ⟨N, 3, none⟩ = some c3 ∧ w.cell? ⟨N, 4, none⟩ = some c4
theorem Five.new (w : World) (c0 c1 c2 c3 c4 : Value) (T : TypeId) : Five (w.alloc (.cells #[c0, c1, c2, c3, c4] T)) w.heap.size c0 c1 c2 c3 c4 := by
  simp [Five]
theorem Five.keep {w w' : World} {N : Nat} {c0 c1 c2 c3 c4 : Value} (h : Five w N c0 c1 c2 c3 c4) (hb : Below w.heap.size w w') (hN : N < w.heap.size) : Five w' N c0 c1 c2 c3 c4 :=
  ⟨(hb.cell (p := ⟨N, 0, none⟩) hN).trans h.1, (hb.cell (p := ⟨N, 1, none⟩) hN).trans h.2.1, (hb.cell (p := ⟨N, 2, none⟩) hN).trans h.2.2.1, (hb.cell (p := ⟨N, 3, none⟩) hN).trans h.2.2.2.1, (hb.cell (p := ⟨N, 4, none⟩) hN).trans h.2.2.2.2⟩

end Go.Proofs.Ytjlifamkfdmfcaa
