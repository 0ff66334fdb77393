/-
  Steps that came in, once more: that their parts are numbers of 64 bits.
-/
import Derived.Test.YtahelconmfldjaaQOpen
namespace Go.Proofs.Ytahelconmfldjaa
set_option linter.unusedSimpArgs false
set_option linter.unusedVariables false
open Go.RowKit Go.Deep Go.ChangeShapes
section
variable {H : Type} {enc : TypeId × Value → H} {w : World}

theorem step_openP (fuel : Nat) (cs : List Value) (x : DataW H × List MemPlace) (h : DataW.trod enc Try.prog w 0 (fun _ => true) true fuel 41 cs = some x) (hl : Light 41 x.1) :
    cs.length = 6 ∧ ∃ (s : St) (c0 c1 c2 c3 c4 c5 : Value), cs = [c0, c1, c2, c3, c4, c5] ∧ StRep w (· < w.heap.size) s (.agg #[c0, c1, c2, c3, c4, c5]) ∧ (Lit.int .i64 s.part).wf = true := by
  obtain ⟨xs, m, rfl, rfl, hlen, hxl, hf⟩ := DataW.trod_struct Try.underlying41 h
  rw [Try.cells41] at hlen
  refine ⟨hlen, ?_⟩
  have hxl' : xs.length = 6 := hxl
  clear hxl
  rcases cs with _ | ⟨c0, _ | ⟨c1, _ | ⟨c2, _ | ⟨c3, _ | ⟨c4, _ | ⟨c5, _ | ⟨c6, cs9⟩⟩⟩⟩⟩⟩⟩ <;> simp at hlen
  rcases xs with _ | ⟨y0, _ | ⟨y1, _ | ⟨y2, _ | ⟨y3, _ | ⟨y4, _ | ⟨y5, _ | ⟨y6, ys9⟩⟩⟩⟩⟩⟩⟩ <;> simp at hxl'
  have f0 : DataW.trod enc Try.prog w 0 (fun _ => true) true m 3 [c0] = some y0 := by have := hf 0 _ rfl; simpa [Try.cells3] using this
  have f1 : DataW.trod enc Try.prog w 0 (fun _ => true) true m 38 [c1] = some y1 := by have := hf 1 _ rfl; simpa [Try.cells38] using this
  have f2 : DataW.trod enc Try.prog w 0 (fun _ => true) true m 9 [c2] = some y2 := by have := hf 2 _ rfl; simpa [Try.cells9] using this
  have f3 : DataW.trod enc Try.prog w 0 (fun _ => true) true m 39 [c3] = some y3 := by have := hf 3 _ rfl; simpa [Try.cells39] using this
  have f4 : DataW.trod enc Try.prog w 0 (fun _ => true) true m 29 [c4] = some y4 := by have := hf 4 _ rfl; simpa [Try.cells29] using this
  have f5 : DataW.trod enc Try.prog w 0 (fun _ => true) true m 38 [c5] = some y5 := by have := hf 5 _ rfl; simpa [Try.cells38] using this
  have l1 : Light 38 y1.1 := fun k hk => hl k (by simp [DataW.weights, Try.underlying41, DataW.weightsEach, hk])
  have l3 : Light 39 y3.1 := fun k hk => hl k (by simp [DataW.weights, Try.underlying41, DataW.weightsEach, hk])
  have l4 : Light 29 y4.1 := fun k hk => hl k (by simp [DataW.weights, Try.underlying41, DataW.weightsEach, hk])
  have l5 : Light 38 y5.1 := fun k hk => hl k (by simp [DataW.weights, Try.underlying41, DataW.weightsEach, hk])
  clear hf h hl
  obtain ⟨pt, e0, -, hpt⟩ := DataW.trod_int Try.underlying3 f0
  obtain ⟨way, wa, wc, rfl, hway, hwc, hwb⟩ := strs_open f1 l1
  obtain ⟨ty, e2, -, hty⟩ := DataW.trod_string Try.underlying9 f2
  obtain ⟨sels, sa, sc, rfl, hsel⟩ := sels_open f3 l3
  obtain ⟨after, aa, ac, rfl, haf, hac, hwa⟩ := ints_openW f4 l4
  obtain ⟨br, ba, bc, rfl, hbr, hbc, hbb⟩ := strs_open f5 l5
  simp only [List.cons.injEq, and_true] at e0 e2
  subst e0 e2
  exact ⟨⟨pt, way, ty, sels, after, br⟩, _, _, _, _, _, _, rfl, ⟨wa, sa, aa, ba, wc, sc, ac, bc, rfl, hway, hwb, hty, hsel, haf, hac, hbr, hbb⟩, hpt⟩

theorem stepS_openP {fuel : Nat} {c : Value} {x : DataW H × List MemPlace} (h : DataW.trod enc Try.prog w 0 (fun _ => true) true fuel 22 [c] = some x) (hl : Light 22 x.1) :
    ∃ (ss : List St) (sa : Option Addr) (sc : Nat), c = .slice sa ss.length sc ∧ StReps w (· < w.heap.size) ss sa ∧ ss.length ≤ sc ∧ ∀ i, (Lit.int .i64 (pth ss i).part).wf = true := by
  obtain ⟨ss, sa, sc, C, rfl, hsc, hb, hA, hr⟩ := rows_open St.zero (fun t cs => ∃ (c0 c1 c2 c3 c4 c5 : Value), cs = [c0, c1, c2, c3, c4, c5] ∧ StRep w (· < w.heap.size) t (.agg #[c0, c1, c2, c3, c4, c5]) ∧ (Lit.int .i64 t.part).wf = true) 22 41 6 120 Try.underlying22 Try.cells41 Try.bytes41 (by omega) h hl (fun m' cs y _ => step_openP m' cs y)
  refine ⟨ss, sa, sc, rfl, ⟨hb, C, hA, fun i hi => ?_⟩, hsc, fun i => ?_⟩
  rotate_left
  · by_cases hi : i < ss.length
    · obtain ⟨_, _, _, _, _, _, _, _, hw⟩ := hr i hi
      exact hw
    · simp [pth, List.getD_eq_getElem?_getD, List.getElem?_eq_none (Nat.le_of_not_lt hi), St.zero]; rfl
  obtain ⟨d0, d1, d2, d3, d4, d5, hd, hR, -⟩ := hr i hi
  simp only [List.range, List.range.loop, List.map_cons, List.map_nil, List.cons.injEq, and_true] at hd
  obtain ⟨rfl, rfl, rfl, rfl, rfl, rfl⟩ := hd
  exact hR
end
end Go.Proofs.Ytahelconmfldjaa
