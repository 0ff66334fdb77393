/-
  What the laws of asks share: an ask that was copied can be handed to the program.
-/
import Derived.Test.YtmeopghhgpbhpaaDoorAAsk
import Derived.Test.YtmeopghhgpbhpaaDoorASz
namespace Go.Proofs.YtmeopghhgpbhpaaDoor
set_option linter.unusedSimpArgs false
set_option linter.unusedVariables false
open Go.RowKit Go.Shelf Go.Maps

theorem seN_apart {w : World} {P : Nat → Prop} (hF : ∀ b, P b → ∀ a : Addr, a.block = b → w.frozen? a = false) : ∀ {f : Nat} {x : Se} {v : Value}, SeN w P f x v → SeN w (fun b => P b ∧ Apart w b) f x v
  | 0, _, _, h => h.elim
  | f + 1, x, v, h => by
    obtain ⟨ka, kc, C, h1, h2, h3, h4, hA, hr⟩ := h
    refine ⟨ka, kc, C, h1, h2, h3, h4, fun hl => ?_, fun i hi => seN_apart hF (hr i hi)⟩
    obtain ⟨b, off, e, hb, hc⟩ := hA hl
    exact ⟨b, off, e, ⟨hb, Apart.of_cell (hc 0 hl 0 (by omega)) (hF b hb)⟩, hc⟩
theorem seReps_apart {w : World} {P : Nat → Prop} {ks : List Se} {a : Option Addr} (hF : ∀ b, P b → ∀ a : Addr, a.block = b → w.frozen? a = false) (h : SeReps w P ks a) : SeReps w (fun b => P b ∧ Apart w b) ks a := by
  obtain ⟨h0, C, hA, hr⟩ := h
  refine ⟨h0, C, fun hl => ?_, fun i hi => ?_⟩
  · obtain ⟨b, off, e, hb, hc⟩ := hA hl
    exact ⟨b, off, e, ⟨hb, Apart.of_cell (hc 0 hl 0 (by omega)) (hF b hb)⟩, hc⟩
  · obtain ⟨f, hf⟩ := hr i hi
    exact ⟨f, seN_apart hF hf⟩
/-- What was copied may be handed on. -/
theorem askIn_copied {f : Nat} {ks : List Se} {a : Option Addr} {N : Nat} {w : World} (hf : FitS f ks) (hs : SmallS f ks) (hfew : f ≤ 1000000000) (hR : SeReps w (fun b => N ≤ b ∧ b < w.heap.size) ks a) (hN : NF N w) (hT : Tab w.heap.size w) :
    AskIn f ks (fun b => (N ≤ b ∧ b < w.heap.size) ∧ Apart w b) w.heap.size a w :=
  ⟨hf, hs, hfew, seReps_apart (fun b hb a ha => hN a (by omega)) hR, fun b hb => ⟨hb.1.2, hb.2⟩, Nat.le_refl _, hT⟩
end Go.Proofs.YtmeopghhgpbhpaaDoor
