/-
  Rows that came in, read as data, are held by the cells of the world: the opening of an argument of the type []Row.
-/
import Derived.Test.YtjlifamkfdmfcaaRRep
import Derived.Test.YtjlifamkfdmfcaaVOpen
namespace Go.Proofs.Ytjlifamkfdmfcaa
set_option linter.unusedSimpArgs false
set_option linter.unusedVariables false
open Go.RowKit Go.Deep Go.ChangeShapes

theorem Try.cells128 : Try.prog.cellsOf 128 = 6 := by kernel_rfl
theorem Try.cells54 : Try.prog.cellsOf 54 = 3 := by kernel_rfl
theorem Try.cells52 : Try.prog.cellsOf 52 = 1 := by kernel_rfl
theorem Try.cells22 : Try.prog.cellsOf 22 = 1 := by kernel_rfl
theorem Try.bytes128 : Try.prog.bytesOf 128 = 96 := by kernel_rfl
theorem Try.bytes54 : Try.prog.bytesOf 54 = 48 := by kernel_rfl

section
variable {H : Type} {enc : TypeId × Value → H} {w : World}

theorem cell_open (fuel : Nat) (cs : List Value) (x : DataW H × List MemPlace) (h : DataW.trod enc Try.prog w 0 (fun _ => true) true fuel 128 cs = some x) (hl : Light 128 x.1) :
    cs.length = 6 ∧ ∃ (f : Ce) (c0 c1 c2 c3 c4 c5 : Value), cs = [c0, c1, c2, c3, c4, c5] ∧ CeRep w (· < w.heap.size) f (.agg #[c0, c1, c2, c3, c4, c5]) := by
  obtain ⟨xs, m, rfl, rfl, hlen, hxl, hf⟩ := DataW.trod_struct Try.underlying128 h
  rw [Try.cells128] at hlen
  refine ⟨hlen, ?_⟩
  have hxl' : xs.length = 2 := hxl
  clear hxl
  rcases cs with _ | ⟨c0, _ | ⟨c1, _ | ⟨c2, _ | ⟨c3, _ | ⟨c4, _ | ⟨c5, _ | ⟨c6, cs9⟩⟩⟩⟩⟩⟩⟩ <;> simp at hlen
  rcases xs with _ | ⟨y0, _ | ⟨y1, _ | ⟨y2, ys9⟩⟩⟩ <;> simp at hxl'
  have f0 : DataW.trod enc Try.prog w 0 (fun _ => true) true m 9 [c0] = some y0 := by have := hf 0 _ rfl; simpa [Try.cells9] using this
  have f1 : DataW.trod enc Try.prog w 0 (fun _ => true) true m 39 [c1, c2, c3, c4, c5] = some y1 := by have := hf 1 _ rfl; simpa [Try.cells9, Try.cells39] using this
  have l1 : Light 39 y1.1 := fun k hk => hl k (by simp [DataW.weights, Try.underlying128, DataW.weightsEach, hk])
  clear hf h hl
  obtain ⟨nm, e0, -, hn⟩ := DataW.trod_string Try.underlying9 f0
  obtain ⟨y, d1, d2, d3, d4, d5, e1, hR⟩ := rep_open m _ _ f1 l1
  simp only [List.cons.injEq, and_true] at e0 e1
  obtain ⟨rfl, rfl, rfl, rfl, rfl⟩ := e1
  subst e0
  exact ⟨⟨nm, y⟩, _, _, _, _, _, _, rfl, _, _, _, _, _, rfl, hR, hn⟩

theorem row_open (fuel : Nat) (cs : List Value) (x : DataW H × List MemPlace) (h : DataW.trod enc Try.prog w 0 (fun _ => true) true fuel 54 cs = some x) (hl : Light 54 x.1) :
    cs.length = 3 ∧ ∃ (t : Ro) (c0 c1 c2 : Value), cs = [c0, c1, c2] ∧ RoRep w (· < w.heap.size) t (.agg #[c0, c1, c2]) := by
  obtain ⟨xs, m, rfl, rfl, hlen, hxl, hf⟩ := DataW.trod_struct Try.underlying54 h
  rw [Try.cells54] at hlen
  refine ⟨hlen, ?_⟩
  have hxl' : xs.length = 3 := hxl
  clear hxl
  rcases cs with _ | ⟨c0, _ | ⟨c1, _ | ⟨c2, _ | ⟨c3, cs9⟩⟩⟩⟩ <;> simp at hlen
  rcases xs with _ | ⟨y0, _ | ⟨y1, _ | ⟨y2, _ | ⟨y3, ys9⟩⟩⟩⟩ <;> simp at hxl'
  have f0 : DataW.trod enc Try.prog w 0 (fun _ => true) true m 9 [c0] = some y0 := by have := hf 0 _ rfl; simpa [Try.cells9] using this
  have f1 : DataW.trod enc Try.prog w 0 (fun _ => true) true m 3 [c1] = some y1 := by have := hf 1 _ rfl; simpa [Try.cells3] using this
  have f2 : DataW.trod enc Try.prog w 0 (fun _ => true) true m 52 [c2] = some y2 := by have := hf 2 _ rfl; simpa [Try.cells52] using this
  have l2 : Light 52 y2.1 := fun k hk => hl k (by simp [DataW.weights, Try.underlying54, DataW.weightsEach, hk])
  clear hf h hl
  obtain ⟨nm, e0, -, hn⟩ := DataW.trod_string Try.underlying9 f0
  obtain ⟨id, e1, -, -⟩ := DataW.trod_int Try.underlying3 f1
  obtain ⟨fs, fa, fc, C, rfl, hfc, hb, hA, hr⟩ := rows_open Ce.zero (fun f cs => ∃ (c0 c1 c2 c3 c4 c5 : Value), cs = [c0, c1, c2, c3, c4, c5] ∧ CeRep w (· < w.heap.size) f (.agg #[c0, c1, c2, c3, c4, c5])) 52 128 6 96 Try.underlying52 Try.cells128 Try.bytes128 (by omega) f2 l2 cell_open
  simp only [List.cons.injEq, and_true] at e0 e1
  subst e0 e1
  refine ⟨⟨nm, id, fs⟩, _, _, _, rfl, fa, fc, rfl, ⟨hb, C, hA, fun i hi => ?_⟩, hfc, hn⟩
  obtain ⟨d0, d1, d2, d3, d4, d5, hd, hR⟩ := hr i hi
  simp only [List.range, List.range.loop, List.map_cons, List.map_nil, List.cons.injEq, and_true] at hd
  obtain ⟨rfl, rfl, rfl, rfl, rfl, rfl⟩ := hd
  exact hR

theorem rowS_open {fuel : Nat} {c : Value} {x : DataW H × List MemPlace} (h : DataW.trod enc Try.prog w 0 (fun _ => true) true fuel 22 [c] = some x) (hl : Light 22 x.1) :
    ∃ (rs : List Ro) (ra : Option Addr) (rc : Nat), c = .slice ra rs.length rc ∧ RoReps w (· < w.heap.size) rs ra ∧ rs.length ≤ rc := by
  obtain ⟨rs, ra, rc, C, rfl, hrc, hb, hA, hr⟩ := rows_open Ro.zero (fun t cs => ∃ (c0 c1 c2 : Value), cs = [c0, c1, c2] ∧ RoRep w (· < w.heap.size) t (.agg #[c0, c1, c2])) 22 54 3 48 Try.underlying22 Try.cells54 Try.bytes54 (by omega) h hl row_open
  refine ⟨rs, ra, rc, rfl, ⟨hb, C, hA, fun i hi => ?_⟩, hrc⟩
  obtain ⟨d0, d1, d2, hd, hR⟩ := hr i hi
  simp only [List.range, List.range.loop, List.map_cons, List.map_nil, List.cons.injEq, and_true] at hd
  obtain ⟨rfl, rfl, rfl⟩ := hd
  exact hR
end
end Go.Proofs.Ytjlifamkfdmfcaa
