/-
  Lists of things in memory: their cells.
-/
import Derived.Test.YtibpieomldhomaaGreatDoorCopyS
namespace Go.Proofs.YtibpieomldhomaaGreatDoor
set_option linter.unusedSimpArgs false
set_option linter.unusedVariables false
open Go.RowKit

/-- Cells of elements of 'sz' cells each. -/
def Arr (w : World) (P : Nat → Prop) (sz len : Nat) (a : Option Addr) (C : Nat → Nat → Value) : Prop :=
  0 < len → ∃ b off, a = some ⟨b, off, none⟩ ∧ P b ∧ ∀ i, i < len → ∀ j, j < sz → w.cell? ⟨b, off + i * sz + j, none⟩ = some (C i j)
theorem Arr.mono {w w' : World} {P : Nat → Prop} {sz len : Nat} {a : Option Addr} {C : Nat → Nat → Value} (h : Arr w P sz len a C) (e : ∀ k, P k → w'.heap[k]? = w.heap[k]?) : Arr w' P sz len a C := fun hl => by
  obtain ⟨b, off, ha, hb, hc⟩ := h hl
  exact ⟨b, off, ha, hb, fun i hi j hj => (World.cell?_of_block (w := w) (a := ⟨b, off + i * sz + j, none⟩) (e b hb)).trans (hc i hi j hj)⟩
theorem Arr.sub {w : World} {P Q : Nat → Prop} {sz len : Nat} {a : Option Addr} {C : Nat → Nat → Value} (h : Arr w P sz len a C) (e : ∀ k, P k → Q k) : Arr w Q sz len a C := fun hl => by
  obtain ⟨b, off, ha, hb, hc⟩ := h hl
  exact ⟨b, off, ha, e _ hb, hc⟩
end Go.Proofs.YtibpieomldhomaaGreatDoor
