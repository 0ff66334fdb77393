/-
  An answer that came in, read as data, is held by the cells of the world.
-/
import Derived.Test.YtjlifamkfdmfcaaVOpen
import Derived.Test.YtjlifamkfdmfcaaAnRep
namespace Go.Proofs.Ytjlifamkfdmfcaa
set_option linter.unusedSimpArgs false
set_option linter.unusedVariables false
open Go.RowKit Go.Deep Go.ChangeShapes

theorem Try.cells110 : Try.prog.cellsOf 110 = 2 := by kernel_rfl
theorem Try.cells42 : Try.prog.cellsOf 42 = 6 := by kernel_rfl
theorem Try.cells40 : Try.prog.cellsOf 40 = 1 := by kernel_rfl
theorem Try.bytes110 : Try.prog.bytesOf 110 = 32 := by kernel_rfl

section
variable {H : Type} {enc : TypeId × Value → H} {w : World}

theorem wrong_open (fuel : Nat) (cs : List Value) (x : DataW H × List MemPlace) (h : DataW.trod enc Try.prog w 0 (fun _ => true) true fuel 110 cs = some x) (hl : Light 110 x.1) :
    cs.length = 2 ∧ ∃ (t : Wr) (c0 c1 : Value), cs = [c0, c1] ∧ WrRep w (· < w.heap.size) t (.agg #[c0, c1]) := by
  obtain ⟨xs, m, rfl, rfl, hlen, hxl, hf⟩ := DataW.trod_struct Try.underlying110 h
  rw [Try.cells110] at hlen
  refine ⟨hlen, ?_⟩
  have hxl' : xs.length = 2 := hxl
  clear hxl
  rcases cs with _ | ⟨c0, _ | ⟨c1, _ | ⟨c2, cs9⟩⟩⟩ <;> simp at hlen
  rcases xs with _ | ⟨y0, _ | ⟨y1, _ | ⟨y2, ys9⟩⟩⟩ <;> simp at hxl'
  have f0 : DataW.trod enc Try.prog w 0 (fun _ => true) true m 24 [c0] = some y0 := by have := hf 0 _ rfl; simpa [Try.cells24] using this
  have f1 : DataW.trod enc Try.prog w 0 (fun _ => true) true m 3 [c1] = some y1 := by have := hf 1 _ rfl; simpa [Try.cells24, Try.cells3] using this
  have l0 : Light 24 y0.1 := fun k hk => hl k (by simp [DataW.weights, Try.underlying110, DataW.weightsEach, hk])
  clear hf h hl
  obtain ⟨n, e1, -, -⟩ := DataW.trod_int Try.underlying3 f1
  obtain ⟨ns, na, nc, rfl, hS, hnc, hb⟩ := strs_open f0 l0
  simp only [List.cons.injEq, and_true] at e1
  subst e1
  exact ⟨⟨ns, n⟩, _, _, rfl, _, _, rfl, hS, hnc, hb⟩

theorem answer_open (fuel : Nat) (cs : List Value) (x : DataW H × List MemPlace) (h : DataW.trod enc Try.prog w 0 (fun _ => true) true fuel 42 cs = some x) (hl : Light 42 x.1) :
    ∃ (t : An) (c0 c1 c2 c3 c4 c5 : Value), cs = [c0, c1, c2, c3, c4, c5] ∧ AnRep w (· < w.heap.size) t (.agg #[c0, c1, c2, c3, c4, c5]) := by
  obtain ⟨xs, m, rfl, rfl, hlen, hxl, hf⟩ := DataW.trod_struct Try.underlying42 h
  rw [Try.cells42] at hlen
  have hxl' : xs.length = 2 := hxl
  clear hxl
  rcases cs with _ | ⟨c0, _ | ⟨c1, _ | ⟨c2, _ | ⟨c3, _ | ⟨c4, _ | ⟨c5, _ | ⟨c6, cs9⟩⟩⟩⟩⟩⟩⟩ <;> simp at hlen
  rcases xs with _ | ⟨y0, _ | ⟨y1, _ | ⟨y2, ys9⟩⟩⟩ <;> simp at hxl'
  have f0 : DataW.trod enc Try.prog w 0 (fun _ => true) true m 39 [c0, c1, c2, c3, c4] = some y0 := by have := hf 0 _ rfl; simpa [Try.cells39] using this
  have f1 : DataW.trod enc Try.prog w 0 (fun _ => true) true m 40 [c5] = some y1 := by have := hf 1 _ rfl; simpa [Try.cells39, Try.cells40] using this
  have l0 : Light 39 y0.1 := fun k hk => hl k (by simp [DataW.weights, Try.underlying42, DataW.weightsEach, hk])
  have l1 : Light 40 y1.1 := fun k hk => hl k (by simp [DataW.weights, Try.underlying42, DataW.weightsEach, hk])
  clear hf h hl
  obtain ⟨y, d0, d1, d2, d3, d4, e1, hR⟩ := rep_open m _ _ f0 l0
  simp only [List.cons.injEq, and_true] at e1
  obtain ⟨rfl, rfl, rfl, rfl, rfl⟩ := e1
  obtain ⟨fs, fa, fc, C, rfl, hfc, hb, hA, hr⟩ := rows_open Wr.zero (fun f cs => ∃ (c0 c1 : Value), cs = [c0, c1] ∧ WrRep w (· < w.heap.size) f (.agg #[c0, c1])) 40 110 2 32 Try.underlying40 Try.cells110 Try.bytes110 (by omega) f1 l1 wrong_open
  refine ⟨⟨y, fs⟩, _, _, _, _, _, _, rfl, _, _, _, _, _, _, _, rfl, hR, ⟨hb, C, hA, fun i hi => ?_⟩, hfc⟩
  obtain ⟨c0, c1, e, h⟩ := hr i hi
  simp only [List.range_succ, List.range_zero, List.nil_append, List.cons_append, List.map_cons, List.map_nil, List.cons.injEq, and_true] at e
  obtain ⟨rfl, rfl⟩ := e
  exact h
end
end Go.Proofs.Ytjlifamkfdmfcaa
