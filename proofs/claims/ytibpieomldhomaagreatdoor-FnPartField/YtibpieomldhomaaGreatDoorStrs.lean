/-
  Lists of texts in memory, and the contracts of the functions over them.
-/
import Derived.Test.YtibpieomldhomaaGreatDoorWords
import Derived.Deep.OwnRows
import Derived.Deep.QuietTactic
import Derived.BigQuiet
namespace Go.Proofs.YtibpieomldhomaaGreatDoor
set_option linter.unusedSimpArgs false
set_option linter.unusedVariables false
open Go.RowKit

/-- Text i of a list. -/
def nth (ns : List ByteArray) (i : Nat) : ByteArray := ns.getD i ByteArray.empty

/-- The slice that begins at 'a' holds the texts 'ns', in blocks of which P holds. -/
def Strs (w : World) (P : Nat → Prop) (ns : List ByteArray) (a : Option Addr) : Prop :=
  (ns ≠ [] → ∃ b off, a = some ⟨b, off, none⟩ ∧ P b ∧ ∀ i, i < ns.length → w.cell? ⟨b, off + i, none⟩ = some (.string (nth ns i))) ∧
  (∀ i, (nth ns i).size ≤ maxLen) ∧ ns.length ≤ maxLen

theorem Strs.mono {w w' : World} {P : Nat → Prop} {ns : List ByteArray} {a : Option Addr} (h : Strs w P ns a) (e : ∀ k, P k → w'.heap[k]? = w.heap[k]?) : Strs w' P ns a := by
  refine ⟨fun hn => ?_, h.2⟩
  obtain ⟨b, off, ha, hP, hc⟩ := h.1 hn
  exact ⟨b, off, ha, hP, fun i hi => (World.cell?_of_block (w := w) (a := ⟨b, off + i, none⟩) (e b hP)).trans (hc i hi)⟩
theorem Strs.sub {w : World} {P Q : Nat → Prop} {ns : List ByteArray} {a : Option Addr} (h : Strs w P ns a) (e : ∀ k, P k → Q k) : Strs w Q ns a := by
  refine ⟨fun hn => ?_, h.2⟩
  obtain ⟨b, off, ha, hP, hc⟩ := h.1 hn
  exact ⟨b, off, ha, e _ hP, hc⟩
theorem Strs.take {w : World} {P : Nat → Prop} {ns : List ByteArray} {a : Option Addr} (h : Strs w P ns a) (k : Nat) : Strs w P (ns.take k) a := by
  refine ⟨fun hn => ?_, fun i => ?_, by have := h.2.2; simp; omega⟩
  · obtain ⟨b, off, ha, hP, hc⟩ := h.1 (by intro e; simp [e] at hn)
    refine ⟨b, off, ha, hP, fun i hi => ?_⟩
    have hi' : i < k ∧ i < ns.length := by simp at hi; omega
    rw [hc i hi'.2]; simp [nth, List.getD_eq_getElem?_getD, List.getElem?_take, hi'.1]
  · have := h.2.1 i
    simp only [nth, List.getD_eq_getElem?_getD, List.getElem?_take] at this ⊢
    split
    · exact this
    · simp

/-- The bytes of the first texts of a list. -/
def sumTo (ns : List ByteArray) (n : Nat) : Nat := ((List.range n).map fun i => (nth ns i).size).sum
theorem sumTo_succ (ns : List ByteArray) (n : Nat) : sumTo ns (n + 1) = sumTo ns n + (nth ns n).size := by
  simp [sumTo, List.range_succ]
/-- What a list of texts weighs. -/
def szNs (ns : List ByteArray) : Nat := ns.length + sumTo ns ns.length

end Go.Proofs.YtibpieomldhomaaGreatDoor
