/-
  A value that came in, read as data, is held by the cells of the world.
-/
import Derived.Test.YtjlifamkfdmfcaaBOpen
import Derived.Test.YtjlifamkfdmfcaaEq
namespace Go.Proofs.Ytjlifamkfdmfcaa
set_option linter.unusedSimpArgs false
set_option linter.unusedVariables false
open Go.RowKit Go.Deep Go.ChangeShapes

theorem Try.cells39 : Try.prog.cellsOf 39 = 5 := by kernel_rfl
theorem Try.cells37 : Try.prog.cellsOf 37 = 1 := by kernel_rfl
theorem Try.bytes39 : Try.prog.bytesOf 39 = 80 := by kernel_rfl

section
variable {H : Type} {enc : TypeId × Value → H} {w : World}

set_option maxRecDepth 20000 in
theorem rep_open (fuel : Nat) : ∀ (cs : List Value) (x : DataW H × List MemPlace), DataW.trod enc Try.prog w 0 (fun _ => true) true fuel 39 cs = some x → Light 39 x.1 →
    ∃ (y : V) (c0 c1 c2 c3 c4 : Value), cs = [c0, c1, c2, c3, c4] ∧ Rep w (· < w.heap.size) y (.agg #[c0, c1, c2, c3, c4]) := by
  induction fuel using Nat.strongRecOn with
  | ind fuel ih =>
    intro cs x h hl
    obtain ⟨xs, m, rfl, rfl, hlen, hxl, hf⟩ := DataW.trod_struct Try.underlying39 h
    rw [Try.cells39] at hlen
    match cs, hlen with
    | [c0, c1, c2, c3, c4], _ =>
      match xs, hxl with
      | [y0, y1, y2, y3, y4], _ =>
        have f0 : DataW.trod enc Try.prog w 0 (fun _ => true) true m 3 [c0] = some y0 := by have := hf 0 _ rfl; simpa [Try.cells3] using this
        have f1 : DataW.trod enc Try.prog w 0 (fun _ => true) true m 3 [c1] = some y1 := by have := hf 1 _ rfl; simpa [Try.cells3] using this
        have f2 : DataW.trod enc Try.prog w 0 (fun _ => true) true m 9 [c2] = some y2 := by have := hf 2 _ rfl; simpa [Try.cells9] using this
        have f3 : DataW.trod enc Try.prog w 0 (fun _ => true) true m 24 [c3] = some y3 := by have := hf 3 _ rfl; simpa [Try.cells24] using this
        have f4 : DataW.trod enc Try.prog w 0 (fun _ => true) true m 37 [c4] = some y4 := by have := hf 4 _ rfl; simpa [Try.cells37] using this
        have l3 : Light 24 y3.1 := fun k hk => hl k (by simp [DataW.weights, Try.underlying39, DataW.weightsEach, hk])
        have l4 : Light 37 y4.1 := fun k hk => hl k (by simp [DataW.weights, Try.underlying39, DataW.weightsEach, hk])
        clear hf h hl
        obtain ⟨s, e0, -, -⟩ := DataW.trod_int Try.underlying3 f0
        obtain ⟨n, e1, -, -⟩ := DataW.trod_int Try.underlying3 f1
        obtain ⟨t, e2, -, ht⟩ := DataW.trod_string Try.underlying9 f2
        obtain ⟨ns, na, nc, rfl, hS, hnc, hb⟩ := strs_open f3 l3
        simp only [List.cons.injEq, and_true] at e0 e1 e2
        subst e0 e1 e2
        rcases DataW.trod_slice Try.underlying37 f4 with ⟨hc, -⟩ | ⟨a, len, cap, elems, rest, n', hfu, hc, rfl, -, hlc, hcm, hle, hel, -, -⟩
        · simp only [List.cons.injEq, and_true] at hc
          subst hc
          exact ⟨.mk s n t ns [], _, _, _, _, _, rfl, Rep.of_kids hS hnc ht hb ⟨by simp, 0, 0, fun _ _ => undef, fun h => absurd rfl h, fun i hi => by simp at hi, fun i hi => by simp at hi⟩⟩
        · simp only [List.cons.injEq, and_true] at hc
          subst hc
          have hw : 80 * len ≤ 281474976710656 := by
            have h1 := l4 (((elems.map (·.1)).length + (rest.map (·.1)).length) * Try.prog.bytesOf 39) (by simp only [DataW.weights, Try.underlying37]; exact List.mem_cons_self ..)
            rw [Try.bytes39] at h1
            simp only [List.length_map, reachBytes] at h1
            omega
          have hk : ∀ i, ∃ r : V × (Nat → Value), i < len → (∀ j, j < 5 → w.cell? ((a.add (i * 5)).add j) = some (r.2 j)) ∧ Rep w (· < w.heap.size) r.1 (.agg #[r.2 0, r.2 1, r.2 2, r.2 3, r.2 4]) := by
            intro i
            by_cases hi : i < len
            · have hi' : i < elems.length := by omega
              have h1 := hel i hi
              rw [List.getElem?_eq_getElem hi', Try.cells39] at h1
              obtain ⟨cs', hcs, htr⟩ := Option.bind_eq_some_iff.1 h1
              obtain ⟨y, d0, d1, d2, d3, d4, rfl, hR⟩ := ih n' (by omega) cs' _ htr (fun k hk => l4 k (by
                simp only [DataW.weights, Try.underlying37]
                refine List.mem_cons_of_mem _ (List.mem_append_left _ (light_all (d := elems[i].1) ?_ k hk))
                exact List.mem_map.2 ⟨elems[i], List.getElem_mem hi', rfl⟩))
              obtain ⟨-, -, hcc⟩ := World.cells?_some hcs
              refine ⟨(y, fun j => [d0, d1, d2, d3, d4].getD j undef), fun _ => ⟨fun j hj => ?_, hR⟩⟩
              rw [hcc j hj]
              simp [List.getD_eq_getElem?_getD, List.getElem?_eq_getElem (show j < [d0, d1, d2, d3, d4].length from hj)]
            · exact ⟨(V.zero, fun _ => undef), fun h => absurd h hi⟩
          obtain ⟨f, hfk⟩ := Classical.skolem.1 hk
          have hkl : ((List.range len).map fun i => (f i).1).length = len := by simp
          have hkth : ∀ i, i < len → kth ((List.range len).map fun i => (f i).1) i = (f i).1 := fun i hi => by
            simp [kth, List.getD_eq_getElem?_getD, List.getElem?_map, List.getElem?_range hi]
          refine ⟨.mk s n t ns ((List.range len).map fun i => (f i).1), _, _, _, _, _, rfl, ?_⟩
          have hK : Kids w (· < w.heap.size) ((List.range len).map fun i => (f i).1) (some a) := by
            refine ⟨by rw [hkl]; exact hw, a.block, a.off, fun i => (f i).2, fun hne => ?_, fun i hi j hj => ?_, fun i hi => ?_⟩
            · have h0 : 0 < len := by
                rcases Nat.eq_zero_or_pos len with h | h
                · subst h; simp at hne
                · exact h
              have h1 := (hfk 0 h0).1 0 (by omega)
              have h2 : w.cell? a = some ((f 0).2 0) := by simpa [Addr.add] using h1
              have hsp := World.cell?_spot h2
              obtain ⟨b, off, spot⟩ := a
              simp only at hsp
              subst hsp
              have : w.cells? 0 ⟨b, off, none⟩ 1 = some [(f 0).2 0] := cells?_one (Nat.zero_le _) h2
              exact ⟨rfl, World.cells?_block this (by omega)⟩
            · rw [hkl] at hi
              have h1 := (hfk i hi).1 j hj
              have h0 := (hfk 0 (by omega)).1 0 (by omega)
              have h2 : w.cell? a = some ((f 0).2 0) := by simpa [Addr.add] using h0
              have hsp := World.cell?_spot h2
              obtain ⟨b, off, spot⟩ := a
              simp only at hsp
              subst hsp
              rw [add_plain, add_plain] at h1
              exact h1
            · rw [hkl] at hi
              rw [hkth i hi]
              exact (hfk i hi).2
          have := Rep.of_kids (s := s) (n := n) (kc := cap) hS hnc ht hb hK
          rw [hkl] at this
          exact this

end
end Go.Proofs.Ytjlifamkfdmfcaa
