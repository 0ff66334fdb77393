/-
  A chart that came in, read as data, is held by the cells of the world: the opening of an argument of the type Chart.
-/
import Derived.Test.YtkecmamjebkonaaCRep
import Derived.Test.YtkecmamjebkonaaPOpen
import Derived.ChangeArms
namespace Go.Proofs.Ytkecmamjebkonaa
set_option linter.unusedSimpArgs false
set_option linter.unusedVariables false
open Go.RowKit Go.Deep Go.ChangeShapes

theorem Try.cells55 : Try.prog.cellsOf 55 = 3 := by kernel_rfl
theorem Try.cells27 : Try.prog.cellsOf 27 = 3 := by kernel_rfl
theorem Try.cells3 : Try.prog.cellsOf 3 = 1 := by kernel_rfl
theorem Try.cells29 : Try.prog.cellsOf 29 = 1 := by kernel_rfl
theorem Try.cells25 : Try.prog.cellsOf 25 = 1 := by kernel_rfl
theorem Try.bytes3 : Try.prog.bytesOf 3 = 8 := by kernel_rfl
theorem Try.bytes55 : Try.prog.bytesOf 55 = 56 := by kernel_rfl

section
variable {H : Type} {enc : TypeId × Value → H} {w : World}

theorem ints_open {fuel : Nat} {c : Value} {x : DataW H × List MemPlace} (h : DataW.trod enc Try.prog w 0 (fun _ => true) true fuel 29 [c] = some x) (hl : Light 29 x.1) :
    ∃ (ns : List Int) (na : Option Addr) (nc : Nat), c = .slice na ns.length nc ∧ Ints w (· < w.heap.size) ns na ∧ ns.length ≤ nc := by
  obtain ⟨ns, na, nc, C, rfl, hnc, hb, hA, hr⟩ := rows_open (0 : Int) (fun n cs => cs = [.int .i64 n]) 29 3 1 8 Try.underlying29 Try.cells3 Try.bytes3 (by omega) h hl (fun m cs y hy _ => by
    obtain ⟨n, rfl, -, -⟩ := DataW.trod_int Try.underlying3 hy
    exact ⟨rfl, n, rfl⟩)
  refine ⟨ns, na, nc, rfl, ⟨hb, fun h0 => ?_⟩, hnc⟩
  obtain ⟨b, off, e, hlt, hc⟩ := hA h0
  refine ⟨b, off, e, hlt, fun i hi => ?_⟩
  have h1 := hc i hi 0 (by omega)
  have h2 := hr i hi
  simp only [List.range, List.range.loop, List.map_cons, List.map_nil, List.cons.injEq, and_true] at h2
  rw [h2] at h1
  simpa [ith] using h1

theorem owner_open (fuel : Nat) (cs : List Value) (x : DataW H × List MemPlace) (h : DataW.trod enc Try.prog w 0 (fun _ => true) true fuel 55 cs = some x) (hl : Light 55 x.1) :
    cs.length = 3 ∧ ∃ (t : O) (c0 c1 c2 : Value), cs = [c0, c1, c2] ∧ ORep w (· < w.heap.size) t (.agg #[c0, c1, c2]) := by
  obtain ⟨xs, m, rfl, rfl, hlen, hxl, hf⟩ := DataW.trod_struct Try.underlying55 h
  rw [Try.cells55] at hlen
  refine ⟨hlen, ?_⟩
  have hxl' : xs.length = 3 := hxl
  clear hxl
  rcases cs with _ | ⟨c0, _ | ⟨c1, _ | ⟨c2, _ | ⟨c3, cs9⟩⟩⟩⟩ <;> simp at hlen
  rcases xs with _ | ⟨y0, _ | ⟨y1, _ | ⟨y2, _ | ⟨y3, ys9⟩⟩⟩⟩ <;> simp at hxl'
  have f0 : DataW.trod enc Try.prog w 0 (fun _ => true) true m 9 [c0] = some y0 := by have := hf 0 _ rfl; simpa [Try.cells9] using this
  have f1 : DataW.trod enc Try.prog w 0 (fun _ => true) true m 9 [c1] = some y1 := by have := hf 1 _ rfl; simpa [Try.cells9] using this
  have f2 : DataW.trod enc Try.prog w 0 (fun _ => true) true m 29 [c2] = some y2 := by have := hf 2 _ rfl; simpa [Try.cells29] using this
  have l2 : Light 29 y2.1 := fun k hk => hl k (by simp [DataW.weights, Try.underlying55, DataW.weightsEach, hk])
  clear hf h hl
  obtain ⟨nm, e0, -, hn⟩ := DataW.trod_string Try.underlying9 f0
  obtain ⟨ky, e1, -, ho⟩ := DataW.trod_string Try.underlying9 f1
  obtain ⟨ns, na, nc, rfl, hI, hnc⟩ := ints_open f2 l2
  simp only [List.cons.injEq, and_true] at e0 e1
  subst e0 e1
  exact ⟨⟨nm, ky, ns⟩, _, _, _, rfl, na, nc, rfl, hI, hnc, hn, ho⟩

theorem chart_open (fuel : Nat) (cs : List Value) (x : DataW H × List MemPlace) (h : DataW.trod enc Try.prog w 0 (fun _ => true) true fuel 27 cs = some x) (hl : Light 27 x.1) :
    ∃ (c : Ch) (c0 c1 c2 : Value), cs = [c0, c1, c2] ∧ CRep w (· < w.heap.size) c (.agg #[c0, c1, c2]) := by
  obtain ⟨xs, m, rfl, rfl, hlen, hxl, hf⟩ := DataW.trod_struct Try.underlying27 h
  rw [Try.cells27] at hlen
  have hxl' : xs.length = 2 := hxl
  clear hxl
  rcases cs with _ | ⟨c0, _ | ⟨c1, _ | ⟨c2, _ | ⟨c3, cs9⟩⟩⟩⟩ <;> simp at hlen
  rcases xs with _ | ⟨y0, _ | ⟨y1, _ | ⟨y2, ys9⟩⟩⟩ <;> simp at hxl'
  have f0 : DataW.trod enc Try.prog w 0 (fun _ => true) true m 24 [c0, c1] = some y0 := by have := hf 0 _ rfl; simpa [Try.cells24] using this
  have f1 : DataW.trod enc Try.prog w 0 (fun _ => true) true m 25 [c2] = some y1 := by have := hf 1 _ rfl; simpa [Try.cells25, Try.cells24] using this
  have l0 : Light 24 y0.1 := fun k hk => hl k (by simp [DataW.weights, Try.underlying27, DataW.weightsEach, hk])
  have l1 : Light 25 y1.1 := fun k hk => hl k (by simp [DataW.weights, Try.underlying27, DataW.weightsEach, hk])
  clear hf h hl
  obtain ⟨p, d0, d1, hd, hP⟩ := part_open m _ _ f0 l0
  simp only [List.cons.injEq, and_true] at hd
  obtain ⟨rfl, rfl⟩ := hd
  obtain ⟨os, oa, oc, C, rfl, hoc, hb, hA, hr⟩ := rows_open O.zero (fun t cs => ∃ (c0 c1 c2 : Value), cs = [c0, c1, c2] ∧ ORep w (· < w.heap.size) t (.agg #[c0, c1, c2])) 25 55 3 56 Try.underlying25 Try.cells55 Try.bytes55 (by omega) f1 l1 owner_open
  have hP' := hP
  obtain ⟨ta, tc, e, -⟩ := hP
  simp only [Value.agg.injEq, Array.mk.injEq, List.cons.injEq, and_true] at e
  obtain ⟨rfl, rfl⟩ := e
  refine ⟨⟨p, os⟩, _, _, _, rfl, ta, oa, tc, oc, rfl, hP', ⟨hb, C, hA, fun i hi => ?_⟩, hoc⟩
  obtain ⟨d0, d1, d2, hd, hR⟩ := hr i hi
  simp only [List.range, List.range.loop, List.map_cons, List.map_nil, List.cons.injEq, and_true] at hd
  obtain ⟨rfl, rfl, rfl⟩ := hd
  exact hR
end
end Go.Proofs.Ytkecmamjebkonaa
