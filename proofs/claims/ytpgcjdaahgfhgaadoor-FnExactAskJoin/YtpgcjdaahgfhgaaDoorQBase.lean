/-
  Lists of things and of numbers in memory, and the laws' functions over lists of texts and numbers; what they make may be written.
-/
import Derived.Test.YtpgcjdaahgfhgaaDoorNf
import Derived.Test.YtpgcjdaahgfhgaaDoorArr
import Derived.Deep.Slices
import Derived.BigRegion
import Derived.Deep.RegionWith
import Derived.Deep.RegionHeld3
namespace Go.Proofs.YtpgcjdaahgfhgaaDoor
set_option linter.unusedSimpArgs false
set_option linter.unusedVariables false
open Go.RowKit



/-- Number i of a list. -/
def ith (ns : List Int) (i : Nat) : Int := ns.getD i 0
/-- The slice that begins at 'a' holds the numbers 'ns', in blocks of which P holds. -/
def Ints (w : World) (P : Nat → Prop) (ns : List Int) (a : Option Addr) : Prop :=
  8 * ns.length ≤ 281474976710656 ∧ (0 < ns.length → ∃ b off, a = some ⟨b, off, none⟩ ∧ P b ∧ ∀ i, i < ns.length → w.cell? ⟨b, off + i, none⟩ = some (.int .i64 (ith ns i)))
theorem Ints.mono {w w' : World} {P : Nat → Prop} {ns : List Int} {a : Option Addr} (h : Ints w P ns a) (e : ∀ k, P k → w'.heap[k]? = w.heap[k]?) : Ints w' P ns a := by
  refine ⟨h.1, fun hn => ?_⟩
  obtain ⟨b, off, ha, hP, hc⟩ := h.2 hn
  exact ⟨b, off, ha, hP, fun i hi => (World.cell?_of_block (w := w) (a := ⟨b, off + i, none⟩) (e b hP)).trans (hc i hi)⟩
theorem Ints.sub {w : World} {P Q : Nat → Prop} {ns : List Int} {a : Option Addr} (h : Ints w P ns a) (e : ∀ k, P k → Q k) : Ints w Q ns a := by
  refine ⟨h.1, fun hn => ?_⟩
  obtain ⟨b, off, ha, hP, hc⟩ := h.2 hn
  exact ⟨b, off, ha, e _ hP, hc⟩
theorem Ints.under {w w' : World} {B : Nat} {x : List Int} {v : Option Addr} (h : Ints w (· < B) x v) (hb : Below B w w') : Ints w' (· < B) x v := h.mono fun k hk => hb.block k hk
theorem Ints.nil (w : World) (P : Nat → Prop) (a : Option Addr) : Ints w P [] a := ⟨by simp, fun h => by simp at h⟩
/-- What a list of numbers weighs. -/
def szIs (ns : List Int) : Nat := ns.length
theorem info3 : (Tryd.prog.info? 3).map (fun i => (i.zero, i.size, i.bytes)) = some (some (.int .i64 0), 1, 8) := by kernel_rfl
end Go.Proofs.YtpgcjdaahgfhgaaDoor
