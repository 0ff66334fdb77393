/-
  A part that came in, read as data, is held by the cells of the world: the opening of an argument of the type Part.
-/
import Derived.Test.YtllfclkjhfikoaaGreatDoorPRep
import Derived.Test.YtllfclkjhfikoaaGreatDoorBOpen
namespace Go.Proofs.YtllfclkjhfikoaaGreatDoor
set_option linter.unusedSimpArgs false
set_option linter.unusedVariables false
open Go.RowKit Go.Deep Go.ChangeShapes

theorem Tryz.cells24 : Tryz.prog.cellsOf 24 = 2 := by kernel_rfl
theorem Tryz.cells55 : Tryz.prog.cellsOf 55 = 3 := by kernel_rfl
theorem Tryz.cells104 : Tryz.prog.cellsOf 104 = 8 := by kernel_rfl
theorem Tryz.cells4 : Tryz.prog.cellsOf 4 = 1 := by kernel_rfl
theorem Tryz.cells22 : Tryz.prog.cellsOf 22 = 1 := by kernel_rfl
theorem Tryz.cells53 : Tryz.prog.cellsOf 53 = 1 := by kernel_rfl
theorem Tryz.bytes55 : Tryz.prog.bytesOf 55 = 56 := by kernel_rfl
theorem Tryz.bytes104 : Tryz.prog.bytesOf 104 = 64 := by kernel_rfl

section
variable {H : Type} {enc : TypeId × Value → H} {w : World}

theorem field_open (fuel : Nat) (cs : List Value) (x : DataW H × List MemPlace) (h : DataW.trod enc Tryz.prog w 0 (fun _ => true) true fuel 104 cs = some x) (hl : Light 104 x.1) :
    cs.length = 8 ∧ ∃ (f : F) (c0 c1 c2 c3 c4 c5 c6 c7 : Value), cs = [c0, c1, c2, c3, c4, c5, c6, c7] ∧ FRep w (· < w.heap.size) f (.agg #[c0, c1, c2, c3, c4, c5, c6, c7]) := by
  obtain ⟨xs, m, rfl, rfl, hlen, hxl, hf⟩ := DataW.trod_struct Tryz.underlying104 h
  rw [Tryz.cells104] at hlen
  refine ⟨hlen, ?_⟩
  have hxl' : xs.length = 8 := hxl
  clear hxl
  rcases cs with _ | ⟨c0, _ | ⟨c1, _ | ⟨c2, _ | ⟨c3, _ | ⟨c4, _ | ⟨c5, _ | ⟨c6, _ | ⟨c7, _ | ⟨c8, cs9⟩⟩⟩⟩⟩⟩⟩⟩⟩ <;> simp at hlen
  rcases xs with _ | ⟨y0, _ | ⟨y1, _ | ⟨y2, _ | ⟨y3, _ | ⟨y4, _ | ⟨y5, _ | ⟨y6, _ | ⟨y7, _ | ⟨y8, ys9⟩⟩⟩⟩⟩⟩⟩⟩⟩ <;> simp at hxl'
  have f0 : DataW.trod enc Tryz.prog w 0 (fun _ => true) true m 9 [c0] = some y0 := by have := hf 0 _ rfl; simpa [Tryz.cells9] using this
  have f1 : DataW.trod enc Tryz.prog w 0 (fun _ => true) true m 9 [c1] = some y1 := by have := hf 1 _ rfl; simpa [Tryz.cells9] using this
  have f2 : DataW.trod enc Tryz.prog w 0 (fun _ => true) true m 4 [c2] = some y2 := by have := hf 2 _ rfl; simpa [Tryz.cells4] using this
  have f3 : DataW.trod enc Tryz.prog w 0 (fun _ => true) true m 4 [c3] = some y3 := by have := hf 3 _ rfl; simpa [Tryz.cells4] using this
  have f4 : DataW.trod enc Tryz.prog w 0 (fun _ => true) true m 4 [c4] = some y4 := by have := hf 4 _ rfl; simpa [Tryz.cells4] using this
  have f5 : DataW.trod enc Tryz.prog w 0 (fun _ => true) true m 4 [c5] = some y5 := by have := hf 5 _ rfl; simpa [Tryz.cells4] using this
  have f6 : DataW.trod enc Tryz.prog w 0 (fun _ => true) true m 4 [c6] = some y6 := by have := hf 6 _ rfl; simpa [Tryz.cells4] using this
  have f7 : DataW.trod enc Tryz.prog w 0 (fun _ => true) true m 42 [c7] = some y7 := by have := hf 7 _ rfl; simpa [Tryz.cells42] using this
  have l7 : Light 42 y7.1 := fun k hk => hl k (by simp [DataW.weights, Tryz.underlying104, DataW.weightsEach, hk])
  clear hf h hl
  obtain ⟨nm, e0, -, hn⟩ := DataW.trod_string Tryz.underlying9 f0
  obtain ⟨of, e1, -, ho⟩ := DataW.trod_string Tryz.underlying9 f1
  obtain ⟨b2, e2, -⟩ := DataW.trod_bool Tryz.underlying4 f2
  obtain ⟨b3, e3, -⟩ := DataW.trod_bool Tryz.underlying4 f3
  obtain ⟨b4, e4, -⟩ := DataW.trod_bool Tryz.underlying4 f4
  obtain ⟨b5, e5, -⟩ := DataW.trod_bool Tryz.underlying4 f5
  obtain ⟨b6, e6, -⟩ := DataW.trod_bool Tryz.underlying4 f6
  obtain ⟨ns, na, nc, rfl, hS, hnc, hb⟩ := strs_open f7 l7
  simp only [List.cons.injEq, and_true] at e0 e1 e2 e3 e4 e5 e6
  subst e0 e1 e2 e3 e4 e5 e6
  exact ⟨⟨nm, of, b2, b3, b4, b5, b6, ns⟩, _, _, _, _, _, _, _, _, rfl, na, nc, rfl, hS, hnc, hn, ho, hb⟩

theorem type_open (fuel : Nat) (cs : List Value) (x : DataW H × List MemPlace) (h : DataW.trod enc Tryz.prog w 0 (fun _ => true) true fuel 55 cs = some x) (hl : Light 55 x.1) :
    cs.length = 3 ∧ ∃ (t : T) (c0 c1 c2 : Value), cs = [c0, c1, c2] ∧ TRep w (· < w.heap.size) t (.agg #[c0, c1, c2]) := by
  obtain ⟨xs, m, rfl, rfl, hlen, hxl, hf⟩ := DataW.trod_struct Tryz.underlying55 h
  rw [Tryz.cells55] at hlen
  refine ⟨hlen, ?_⟩
  have hxl' : xs.length = 3 := hxl
  clear hxl
  rcases cs with _ | ⟨c0, _ | ⟨c1, _ | ⟨c2, _ | ⟨c3, cs9⟩⟩⟩⟩ <;> simp at hlen
  rcases xs with _ | ⟨y0, _ | ⟨y1, _ | ⟨y2, _ | ⟨y3, ys9⟩⟩⟩⟩ <;> simp at hxl'
  have f0 : DataW.trod enc Tryz.prog w 0 (fun _ => true) true m 9 [c0] = some y0 := by have := hf 0 _ rfl; simpa [Tryz.cells9] using this
  have f1 : DataW.trod enc Tryz.prog w 0 (fun _ => true) true m 9 [c1] = some y1 := by have := hf 1 _ rfl; simpa [Tryz.cells9] using this
  have f2 : DataW.trod enc Tryz.prog w 0 (fun _ => true) true m 53 [c2] = some y2 := by have := hf 2 _ rfl; simpa [Tryz.cells53] using this
  have l2 : Light 53 y2.1 := fun k hk => hl k (by simp [DataW.weights, Tryz.underlying55, DataW.weightsEach, hk])
  clear hf h hl
  obtain ⟨nm, e0, -, hn⟩ := DataW.trod_string Tryz.underlying9 f0
  obtain ⟨ky, e1, -, ho⟩ := DataW.trod_string Tryz.underlying9 f1
  obtain ⟨fs, fa, fc, C, rfl, hfc, hb, hA, hr⟩ := rows_open F.zero (fun f cs => ∃ (c0 c1 c2 c3 c4 c5 c6 c7 : Value), cs = [c0, c1, c2, c3, c4, c5, c6, c7] ∧ FRep w (· < w.heap.size) f (.agg #[c0, c1, c2, c3, c4, c5, c6, c7])) 53 104 8 64 Tryz.underlying53 Tryz.cells104 Tryz.bytes104 (by omega) f2 l2 field_open
  simp only [List.cons.injEq, and_true] at e0 e1
  subst e0 e1
  refine ⟨⟨nm, ky, fs⟩, _, _, _, rfl, fa, fc, rfl, ⟨hb, C, hA, fun i hi => ?_⟩, hfc, hn, ho⟩
  obtain ⟨d0, d1, d2, d3, d4, d5, d6, d7, hd, hR⟩ := hr i hi
  simp only [List.range, List.range.loop, List.map_cons, List.map_nil, List.cons.injEq, and_true] at hd
  obtain ⟨rfl, rfl, rfl, rfl, rfl, rfl, rfl, rfl⟩ := hd
  exact hR

theorem part_open (fuel : Nat) (cs : List Value) (x : DataW H × List MemPlace) (h : DataW.trod enc Tryz.prog w 0 (fun _ => true) true fuel 24 cs = some x) (hl : Light 24 x.1) :
    ∃ (p : Pt) (c0 c1 : Value), cs = [c0, c1] ∧ PRep w (· < w.heap.size) p (.agg #[c0, c1]) := by
  obtain ⟨xs, m, rfl, rfl, hlen, hxl, hf⟩ := DataW.trod_struct Tryz.underlying24 h
  rw [Tryz.cells24] at hlen
  have hxl' : xs.length = 2 := hxl
  clear hxl
  rcases cs with _ | ⟨c0, _ | ⟨c1, _ | ⟨c2, cs9⟩⟩⟩ <;> simp at hlen
  rcases xs with _ | ⟨y0, _ | ⟨y1, _ | ⟨y2, ys9⟩⟩⟩ <;> simp at hxl'
  have f0 : DataW.trod enc Tryz.prog w 0 (fun _ => true) true m 9 [c0] = some y0 := by have := hf 0 _ rfl; simpa [Tryz.cells9] using this
  have f1 : DataW.trod enc Tryz.prog w 0 (fun _ => true) true m 22 [c1] = some y1 := by have := hf 1 _ rfl; simpa [Tryz.cells22] using this
  have l1 : Light 22 y1.1 := fun k hk => hl k (by simp [DataW.weights, Tryz.underlying24, DataW.weightsEach, hk])
  clear hf h hl
  obtain ⟨nm, e0, -, hn⟩ := DataW.trod_string Tryz.underlying9 f0
  obtain ⟨ts, ta, tc, C, rfl, htc, hb, hA, hr⟩ := rows_open T.zero (fun t cs => ∃ (c0 c1 c2 : Value), cs = [c0, c1, c2] ∧ TRep w (· < w.heap.size) t (.agg #[c0, c1, c2])) 22 55 3 56 Tryz.underlying22 Tryz.cells55 Tryz.bytes55 (by omega) f1 l1 type_open
  simp only [List.cons.injEq, and_true] at e0
  subst e0
  refine ⟨⟨nm, ts⟩, _, _, rfl, ta, tc, rfl, ⟨hb, C, hA, fun i hi => ?_⟩, htc, hn⟩
  obtain ⟨d0, d1, d2, hd, hR⟩ := hr i hi
  simp only [List.range, List.range.loop, List.map_cons, List.map_nil, List.cons.injEq, and_true] at hd
  obtain ⟨rfl, rfl, rfl⟩ := hd
  exact hR
end
end Go.Proofs.YtllfclkjhfikoaaGreatDoor
