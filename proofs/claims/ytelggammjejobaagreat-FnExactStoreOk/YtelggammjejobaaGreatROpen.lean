/-
  Rows that came in, read as data, are held by the cells of the world: the opening of an argument of the type []Row.
-/
import Derived.Test.YtelggammjejobaaGreatRRep
import Derived.Test.YtelggammjejobaaGreatPOpen
namespace Go.Proofs.YtelggammjejobaaGreat
set_option linter.unusedSimpArgs false
set_option linter.unusedVariables false
open Go.RowKit Go.Deep Go.ChangeShapes

theorem Tryz.cells98 : Tryz.prog.cellsOf 98 = 5 := by kernel_rfl
theorem Tryz.cells100 : Tryz.prog.cellsOf 100 = 6 := by kernel_rfl
theorem Tryz.cells42 : Tryz.prog.cellsOf 42 = 3 := by kernel_rfl
theorem Tryz.cells3 : Tryz.prog.cellsOf 3 = 1 := by kernel_rfl
theorem Tryz.cells96 : Tryz.prog.cellsOf 96 = 1 := by kernel_rfl
theorem Tryz.cells40 : Tryz.prog.cellsOf 40 = 1 := by kernel_rfl
theorem Tryz.cells25 : Tryz.prog.cellsOf 25 = 1 := by kernel_rfl
theorem Tryz.bytes98 : Tryz.prog.bytesOf 98 = 80 := by kernel_rfl
theorem Tryz.bytes100 : Tryz.prog.bytesOf 100 = 96 := by kernel_rfl
theorem Tryz.bytes42 : Tryz.prog.bytesOf 42 = 48 := by kernel_rfl

section
variable {H : Type} {enc : TypeId × Value → H} {w : World}

set_option maxRecDepth 20000 in
theorem rep_open (fuel : Nat) : ∀ (cs : List Value) (x : DataW H × List MemPlace), DataW.trod enc Tryz.prog w 0 (fun _ => true) true fuel 98 cs = some x → Light 98 x.1 →
    ∃ (y : V) (c0 c1 c2 c3 c4 : Value), cs = [c0, c1, c2, c3, c4] ∧ Rep w (· < w.heap.size) y (.agg #[c0, c1, c2, c3, c4]) := by
  induction fuel using Nat.strongRecOn with
  | ind fuel ih =>
    intro cs x h hl
    obtain ⟨xs, m, rfl, rfl, hlen, hxl, hf⟩ := DataW.trod_struct Tryz.underlying98 h
    rw [Tryz.cells98] at hlen
    match cs, hlen with
    | [c0, c1, c2, c3, c4], _ =>
      match xs, hxl with
      | [y0, y1, y2, y3, y4], _ =>
        have f0 : DataW.trod enc Tryz.prog w 0 (fun _ => true) true m 3 [c0] = some y0 := by have := hf 0 _ rfl; simpa [Tryz.cells3] using this
        have f1 : DataW.trod enc Tryz.prog w 0 (fun _ => true) true m 3 [c1] = some y1 := by have := hf 1 _ rfl; simpa [Tryz.cells3] using this
        have f2 : DataW.trod enc Tryz.prog w 0 (fun _ => true) true m 9 [c2] = some y2 := by have := hf 2 _ rfl; simpa [Tryz.cells9] using this
        have f3 : DataW.trod enc Tryz.prog w 0 (fun _ => true) true m 71 [c3] = some y3 := by have := hf 3 _ rfl; simpa [Tryz.cells71] using this
        have f4 : DataW.trod enc Tryz.prog w 0 (fun _ => true) true m 96 [c4] = some y4 := by have := hf 4 _ rfl; simpa [Tryz.cells96] using this
        have l3 : Light 71 y3.1 := fun k hk => hl k (by simp [DataW.weights, Tryz.underlying98, DataW.weightsEach, hk])
        have l4 : Light 96 y4.1 := fun k hk => hl k (by simp [DataW.weights, Tryz.underlying98, DataW.weightsEach, hk])
        clear hf h hl
        obtain ⟨s, e0, -, -⟩ := DataW.trod_int Tryz.underlying3 f0
        obtain ⟨n, e1, -, -⟩ := DataW.trod_int Tryz.underlying3 f1
        obtain ⟨t, e2, -, ht⟩ := DataW.trod_string Tryz.underlying9 f2
        obtain ⟨ns, na, nc, rfl, hS, hnc, hb⟩ := strs_open f3 l3
        simp only [List.cons.injEq, and_true] at e0 e1 e2
        subst e0 e1 e2
        rcases DataW.trod_slice Tryz.underlying96 f4 with ⟨hc, -⟩ | ⟨a, len, cap, elems, rest, n', hfu, hc, rfl, -, hlc, hcm, hle, hel, -, -⟩
        · simp only [List.cons.injEq, and_true] at hc
          subst hc
          exact ⟨.mk s n t ns [], _, _, _, _, _, rfl, Rep.of_kids hS hnc ht hb ⟨by simp, 0, 0, fun _ _ => undef, fun h => absurd rfl h, fun i hi => by simp at hi, fun i hi => by simp at hi⟩⟩
        · simp only [List.cons.injEq, and_true] at hc
          subst hc
          have hw : 80 * len ≤ 281474976710656 := by
            have h1 := l4 (((elems.map (·.1)).length + (rest.map (·.1)).length) * Tryz.prog.bytesOf 98) (by simp only [DataW.weights, Tryz.underlying96]; exact List.mem_cons_self ..)
            rw [Tryz.bytes98] at h1
            simp only [List.length_map, reachBytes] at h1
            omega
          have hk : ∀ i, ∃ r : V × (Nat → Value), i < len → (∀ j, j < 5 → w.cell? ((a.add (i * 5)).add j) = some (r.2 j)) ∧ Rep w (· < w.heap.size) r.1 (.agg #[r.2 0, r.2 1, r.2 2, r.2 3, r.2 4]) := by
            intro i
            by_cases hi : i < len
            · have hi' : i < elems.length := by omega
              have h1 := hel i hi
              rw [List.getElem?_eq_getElem hi', Tryz.cells98] at h1
              obtain ⟨cs', hcs, htr⟩ := Option.bind_eq_some_iff.1 h1
              obtain ⟨y, d0, d1, d2, d3, d4, rfl, hR⟩ := ih n' (by omega) cs' _ htr (fun k hk => l4 k (by
                simp only [DataW.weights, Tryz.underlying96]
                refine List.mem_cons_of_mem _ (List.mem_append_left _ (light_all (d := elems[i].1) ?_ k hk))
                exact List.mem_map.2 ⟨elems[i], List.getElem_mem hi', rfl⟩))
              obtain ⟨-, -, hcc⟩ := World.cells?_some hcs
              refine ⟨(y, fun j => [d0, d1, d2, d3, d4].getD j undef), fun _ => ⟨fun j hj => ?_, hR⟩⟩
              rw [hcc j hj]
              simp [List.getD_eq_getElem?_getD, List.getElem?_eq_getElem (show j < [d0, d1, d2, d3, d4].length from hj)]
            · exact ⟨(V.zero, fun _ => undef), fun h => absurd h hi⟩
          obtain ⟨f, hfk⟩ := Classical.skolem.1 hk
          have hkl : ((List.range len).map fun i => (f i).1).length = len := by simp
          have hkth : ∀ i, i < len → kth ((List.range len).map fun i => (f i).1) i = (f i).1 := fun i hi => by
            simp [kth, List.getD_eq_getElem?_getD, List.getElem?_map, List.getElem?_range hi]
          refine ⟨.mk s n t ns ((List.range len).map fun i => (f i).1), _, _, _, _, _, rfl, ?_⟩
          have hK : Kids w (· < w.heap.size) ((List.range len).map fun i => (f i).1) (some a) := by
            refine ⟨by rw [hkl]; exact hw, a.block, a.off, fun i => (f i).2, fun hne => ?_, fun i hi j hj => ?_, fun i hi => ?_⟩
            · have h0 : 0 < len := by
                rcases Nat.eq_zero_or_pos len with h | h
                · subst h; simp at hne
                · exact h
              have h1 := (hfk 0 h0).1 0 (by omega)
              have h2 : w.cell? a = some ((f 0).2 0) := by simpa [Addr.add] using h1
              have hsp := World.cell?_spot h2
              obtain ⟨b, off, spot⟩ := a
              simp only at hsp
              subst hsp
              have : w.cells? 0 ⟨b, off, none⟩ 1 = some [(f 0).2 0] := cells?_one (Nat.zero_le _) h2
              exact ⟨rfl, World.cells?_block this (by omega)⟩
            · rw [hkl] at hi
              have h1 := (hfk i hi).1 j hj
              have h0 := (hfk 0 (by omega)).1 0 (by omega)
              have h2 : w.cell? a = some ((f 0).2 0) := by simpa [Addr.add] using h0
              have hsp := World.cell?_spot h2
              obtain ⟨b, off, spot⟩ := a
              simp only at hsp
              subst hsp
              rw [add_plain, add_plain] at h1
              exact h1
            · rw [hkl] at hi
              rw [hkth i hi]
              exact (hfk i hi).2
          have := Rep.of_kids (s := s) (n := n) (kc := cap) hS hnc ht hb hK
          rw [hkl] at this
          exact this

theorem cell_open (fuel : Nat) (cs : List Value) (x : DataW H × List MemPlace) (h : DataW.trod enc Tryz.prog w 0 (fun _ => true) true fuel 100 cs = some x) (hl : Light 100 x.1) :
    cs.length = 6 ∧ ∃ (f : Ce) (c0 c1 c2 c3 c4 c5 : Value), cs = [c0, c1, c2, c3, c4, c5] ∧ CeRep w (· < w.heap.size) f (.agg #[c0, c1, c2, c3, c4, c5]) := by
  obtain ⟨xs, m, rfl, rfl, hlen, hxl, hf⟩ := DataW.trod_struct Tryz.underlying100 h
  rw [Tryz.cells100] at hlen
  refine ⟨hlen, ?_⟩
  have hxl' : xs.length = 2 := hxl
  clear hxl
  rcases cs with _ | ⟨c0, _ | ⟨c1, _ | ⟨c2, _ | ⟨c3, _ | ⟨c4, _ | ⟨c5, _ | ⟨c6, cs9⟩⟩⟩⟩⟩⟩⟩ <;> simp at hlen
  rcases xs with _ | ⟨y0, _ | ⟨y1, _ | ⟨y2, ys9⟩⟩⟩ <;> simp at hxl'
  have f0 : DataW.trod enc Tryz.prog w 0 (fun _ => true) true m 9 [c0] = some y0 := by have := hf 0 _ rfl; simpa [Tryz.cells9] using this
  have f1 : DataW.trod enc Tryz.prog w 0 (fun _ => true) true m 98 [c1, c2, c3, c4, c5] = some y1 := by have := hf 1 _ rfl; simpa [Tryz.cells9, Tryz.cells98] using this
  have l1 : Light 98 y1.1 := fun k hk => hl k (by simp [DataW.weights, Tryz.underlying100, DataW.weightsEach, hk])
  clear hf h hl
  obtain ⟨nm, e0, -, hn⟩ := DataW.trod_string Tryz.underlying9 f0
  obtain ⟨y, d1, d2, d3, d4, d5, e1, hR⟩ := rep_open m _ _ f1 l1
  simp only [List.cons.injEq, and_true] at e0 e1
  obtain ⟨rfl, rfl, rfl, rfl, rfl⟩ := e1
  subst e0
  exact ⟨⟨nm, y⟩, _, _, _, _, _, _, rfl, _, _, _, _, _, rfl, hR, hn⟩

theorem row_open (fuel : Nat) (cs : List Value) (x : DataW H × List MemPlace) (h : DataW.trod enc Tryz.prog w 0 (fun _ => true) true fuel 42 cs = some x) (hl : Light 42 x.1) :
    cs.length = 3 ∧ ∃ (t : Ro) (c0 c1 c2 : Value), cs = [c0, c1, c2] ∧ RoRep w (· < w.heap.size) t (.agg #[c0, c1, c2]) := by
  obtain ⟨xs, m, rfl, rfl, hlen, hxl, hf⟩ := DataW.trod_struct Tryz.underlying42 h
  rw [Tryz.cells42] at hlen
  refine ⟨hlen, ?_⟩
  have hxl' : xs.length = 3 := hxl
  clear hxl
  rcases cs with _ | ⟨c0, _ | ⟨c1, _ | ⟨c2, _ | ⟨c3, cs9⟩⟩⟩⟩ <;> simp at hlen
  rcases xs with _ | ⟨y0, _ | ⟨y1, _ | ⟨y2, _ | ⟨y3, ys9⟩⟩⟩⟩ <;> simp at hxl'
  have f0 : DataW.trod enc Tryz.prog w 0 (fun _ => true) true m 9 [c0] = some y0 := by have := hf 0 _ rfl; simpa [Tryz.cells9] using this
  have f1 : DataW.trod enc Tryz.prog w 0 (fun _ => true) true m 3 [c1] = some y1 := by have := hf 1 _ rfl; simpa [Tryz.cells3] using this
  have f2 : DataW.trod enc Tryz.prog w 0 (fun _ => true) true m 40 [c2] = some y2 := by have := hf 2 _ rfl; simpa [Tryz.cells40] using this
  have l2 : Light 40 y2.1 := fun k hk => hl k (by simp [DataW.weights, Tryz.underlying42, DataW.weightsEach, hk])
  clear hf h hl
  obtain ⟨nm, e0, -, hn⟩ := DataW.trod_string Tryz.underlying9 f0
  obtain ⟨id, e1, -, -⟩ := DataW.trod_int Tryz.underlying3 f1
  obtain ⟨fs, fa, fc, C, rfl, hfc, hb, hA, hr⟩ := rows_open Ce.zero (fun f cs => ∃ (c0 c1 c2 c3 c4 c5 : Value), cs = [c0, c1, c2, c3, c4, c5] ∧ CeRep w (· < w.heap.size) f (.agg #[c0, c1, c2, c3, c4, c5])) 40 100 6 96 Tryz.underlying40 Tryz.cells100 Tryz.bytes100 (by omega) f2 l2 cell_open
  simp only [List.cons.injEq, and_true] at e0 e1
  subst e0 e1
  refine ⟨⟨nm, id, fs⟩, _, _, _, rfl, fa, fc, rfl, ⟨hb, C, hA, fun i hi => ?_⟩, hfc, hn⟩
  obtain ⟨d0, d1, d2, d3, d4, d5, hd, hR⟩ := hr i hi
  simp only [List.range, List.range.loop, List.map_cons, List.map_nil, List.cons.injEq, and_true] at hd
  obtain ⟨rfl, rfl, rfl, rfl, rfl, rfl⟩ := hd
  exact hR

theorem rowS_open {fuel : Nat} {c : Value} {x : DataW H × List MemPlace} (h : DataW.trod enc Tryz.prog w 0 (fun _ => true) true fuel 25 [c] = some x) (hl : Light 25 x.1) :
    ∃ (rs : List Ro) (ra : Option Addr) (rc : Nat), c = .slice ra rs.length rc ∧ RoReps w (· < w.heap.size) rs ra ∧ rs.length ≤ rc := by
  obtain ⟨rs, ra, rc, C, rfl, hrc, hb, hA, hr⟩ := rows_open Ro.zero (fun t cs => ∃ (c0 c1 c2 : Value), cs = [c0, c1, c2] ∧ RoRep w (· < w.heap.size) t (.agg #[c0, c1, c2])) 25 42 3 48 Tryz.underlying25 Tryz.cells42 Tryz.bytes42 (by omega) h hl row_open
  refine ⟨rs, ra, rc, rfl, ⟨hb, C, hA, fun i hi => ?_⟩, hrc⟩
  obtain ⟨d0, d1, d2, hd, hR⟩ := hr i hi
  simp only [List.range, List.range.loop, List.map_cons, List.map_nil, List.cons.injEq, and_true] at hd
  obtain ⟨rfl, rfl, rfl⟩ := hd
  exact hR
end
end Go.Proofs.YtelggammjejobaaGreat
