/-
  A value that came in, read as data, is held by the cells of the world: the opening of an argument of the type Value.
-/
import Derived.Test.YtoohlmiegjaicaaTakes5
import Derived.ProofKit
import Derived.SizedLaws
import Derived.SliceStrings
import Derived.Deep.Slices
namespace Go.Proofs.Ytoohlmiegjaicaa
set_option linter.unusedSimpArgs false
set_option linter.unusedVariables false
open Go.RowKit Go.Deep Go.ChangeShapes

theorem Try.cells25 : Try.prog.cellsOf 25 = 5 := by kernel_rfl
theorem Try.cells3 : Try.prog.cellsOf 3 = 1 := by kernel_rfl
theorem Try.cells9 : Try.prog.cellsOf 9 = 1 := by kernel_rfl
theorem Try.cells22 : Try.prog.cellsOf 22 = 1 := by kernel_rfl
theorem Try.cells23 : Try.prog.cellsOf 23 = 1 := by kernel_rfl
theorem Try.bytes9 : Try.prog.bytesOf 9 = 16 := by kernel_rfl
theorem Try.bytes25 : Try.prog.bytesOf 25 = 80 := by kernel_rfl

theorem add_plain (b off k : Nat) : (⟨b, off, none⟩ : Addr).add k = ⟨b, off + k, none⟩ := by by_cases h : k = 0 <;> simp [Addr.add, h]

section
variable {H : Type} {enc : TypeId × Value → H} {w : World}

/-- A datum's parts, each within the reach. -/
def Light (t : TypeId) (d : DataW H) : Prop := ∀ n ∈ d.weights Try.prog t, n ≤ reachBytes

theorem light_all {e : TypeId} : ∀ {l : List (DataW H)} {d : DataW H}, d ∈ l → ∀ n ∈ d.weights Try.prog e, n ∈ DataW.weightsAll Try.prog e l
  | x :: r, d, hd, n, hn => by
    rw [DataW.weightsAll, List.mem_append]
    rcases List.mem_cons.1 hd with rfl | h
    · exact Or.inl hn
    · exact Or.inr (light_all h n hn)

theorem strs_open {fuel : Nat} {c : Value} {x : DataW H × List MemPlace} (h : DataW.trod enc Try.prog w 0 (fun _ => true) true fuel 22 [c] = some x) (hl : Light 22 x.1) :
    ∃ (ns : List ByteArray) (na : Option Addr) (nc : Nat), c = .slice na ns.length nc ∧ Strs w (· < w.heap.size) ns na ∧ ns.length ≤ nc ∧ 16 * ns.length ≤ 281474976710656 := by
  rcases open_strings Try.underlying22 Try.underlying9 Try.cells9 h with ⟨hc, hx⟩ | ⟨a, len, cap, ss, hc, -, hlc, hcm, hsl, rfl, hcell, hsz⟩
  · simp only [List.cons.injEq, and_true] at hc
    exact ⟨[], none, 0, hc, ⟨fun h => absurd rfl h, fun i => by simp [nth], by simp⟩, by simp, by simp⟩
  · simp only [List.cons.injEq, and_true] at hc
    simp only [if_true] at hsl
    have hlen : (ss.take len).length = len := by simp; omega
    refine ⟨ss.take len, some a, cap, by rw [hlen]; exact hc, ⟨fun hne => ?_, fun i => ?_, by rw [hlen]; omega⟩, by omega, ?_⟩
    · have h0 : 0 < len := by
        rcases Nat.eq_zero_or_pos len with h | h
        · subst h; simp at hne
        · exact h
      obtain ⟨b, off, spot⟩ := a
      have hs : spot = none := by simpa [Addr.add] using World.cell?_spot (hcell 0 (by omega))
      subst hs
      refine ⟨b, off, rfl, ?_, fun i hi => ?_⟩
      · have h1 := hcell 0 (by omega)
        have : w.cells? 0 ⟨b, off, none⟩ 1 = some [.string (ss.getD 0 ByteArray.empty)] := cells?_one (Nat.zero_le _) (by simpa [Addr.add] using h1)
        exact World.cells?_block this (by omega)
      · have := hcell i (by omega)
        rw [add_plain] at this
        rw [this]
        simp [nth, List.getD_eq_getElem?_getD, List.getElem?_take, show i < len by omega]
    · simp only [nth, List.getD_eq_getElem?_getD, List.getElem?_take]
      split
      · by_cases hi : i < ss.length
        · rw [List.getElem?_eq_getElem hi]; exact hsz _ (List.getElem_mem hi)
        · rw [List.getElem?_eq_none (by omega)]; simp
      · simp
    · have h1 := hl ((strs (H := H) (ss.take len)).length + (strs (H := H) (ss.drop len)).length |>.mul (Try.prog.bytesOf 9)) (by
        simp only [DataW.weights, Try.underlying22]; exact List.mem_cons_self ..)
      have h2 : ((strs (H := H) (ss.take len)).length + (strs (H := H) (ss.drop len)).length) * Try.prog.bytesOf 9 ≤ reachBytes := h1
      rw [Try.bytes9] at h2
      simp only [strs, List.length_map, List.length_take, List.length_drop, reachBytes] at h2
      omega

theorem rep_open (fuel : Nat) : ∀ (cs : List Value) (x : DataW H × List MemPlace), DataW.trod enc Try.prog w 0 (fun _ => true) true fuel 25 cs = some x → Light 25 x.1 →
    ∃ (y : V) (c0 c1 c2 c3 c4 : Value), cs = [c0, c1, c2, c3, c4] ∧ Rep w (· < w.heap.size) y (.agg #[c0, c1, c2, c3, c4]) := by
  induction fuel using Nat.strongRecOn with
  | ind fuel ih =>
    intro cs x h hl
    obtain ⟨xs, m, rfl, rfl, hlen, hxl, hf⟩ := DataW.trod_struct Try.underlying25 h
    rw [Try.cells25] at hlen
    match cs, hlen with
    | [c0, c1, c2, c3, c4], _ =>
      match xs, hxl with
      | [y0, y1, y2, y3, y4], _ =>
        have f0 : DataW.trod enc Try.prog w 0 (fun _ => true) true m 3 [c0] = some y0 := by have := hf 0 _ rfl; simpa [Try.cells3] using this
        have f1 : DataW.trod enc Try.prog w 0 (fun _ => true) true m 3 [c1] = some y1 := by have := hf 1 _ rfl; simpa [Try.cells3] using this
        have f2 : DataW.trod enc Try.prog w 0 (fun _ => true) true m 9 [c2] = some y2 := by have := hf 2 _ rfl; simpa [Try.cells9] using this
        have f3 : DataW.trod enc Try.prog w 0 (fun _ => true) true m 22 [c3] = some y3 := by have := hf 3 _ rfl; simpa [Try.cells22] using this
        have f4 : DataW.trod enc Try.prog w 0 (fun _ => true) true m 23 [c4] = some y4 := by have := hf 4 _ rfl; simpa [Try.cells23] using this
        have l3 : Light 22 y3.1 := fun k hk => hl k (by simp [DataW.weights, Try.underlying25, DataW.weightsEach, hk])
        have l4 : Light 23 y4.1 := fun k hk => hl k (by simp [DataW.weights, Try.underlying25, DataW.weightsEach, hk])
        clear hf h hl
        obtain ⟨s, e0, -, -⟩ := DataW.trod_int Try.underlying3 f0
        obtain ⟨n, e1, -, -⟩ := DataW.trod_int Try.underlying3 f1
        obtain ⟨t, e2, -, ht⟩ := DataW.trod_string Try.underlying9 f2
        obtain ⟨ns, na, nc, rfl, hS, hnc, hb⟩ := strs_open f3 l3
        simp only [List.cons.injEq, and_true] at e0 e1 e2
        subst e0 e1 e2
        rcases DataW.trod_slice Try.underlying23 f4 with ⟨hc, -⟩ | ⟨a, len, cap, elems, rest, n', hfu, hc, rfl, -, hlc, hcm, hle, hel, -, -⟩
        · simp only [List.cons.injEq, and_true] at hc
          subst hc
          exact ⟨.mk s n t ns [], _, _, _, _, _, rfl, Rep.of_kids hS hnc ht hb ⟨by simp, 0, 0, fun _ _ => undef, fun h => absurd rfl h, fun i hi => by simp at hi, fun i hi => by simp at hi⟩⟩
        · simp only [List.cons.injEq, and_true] at hc
          subst hc
          have hw : 80 * len ≤ 281474976710656 := by
            have h1 := l4 (((elems.map (·.1)).length + (rest.map (·.1)).length) * Try.prog.bytesOf 25) (by simp only [DataW.weights, Try.underlying23]; exact List.mem_cons_self ..)
            rw [Try.bytes25] at h1
            simp only [List.length_map, reachBytes] at h1
            omega
          have hk : ∀ i, ∃ r : V × (Nat → Value), i < len → (∀ j, j < 5 → w.cell? ((a.add (i * 5)).add j) = some (r.2 j)) ∧ Rep w (· < w.heap.size) r.1 (.agg #[r.2 0, r.2 1, r.2 2, r.2 3, r.2 4]) := by
            intro i
            by_cases hi : i < len
            · have hi' : i < elems.length := by omega
              have h1 := hel i hi
              rw [List.getElem?_eq_getElem hi', Try.cells25] at h1
              obtain ⟨cs', hcs, htr⟩ := Option.bind_eq_some_iff.1 h1
              obtain ⟨y, d0, d1, d2, d3, d4, rfl, hR⟩ := ih n' (by omega) cs' _ htr (fun k hk => l4 k (by
                simp only [DataW.weights, Try.underlying23]
                refine List.mem_cons_of_mem _ (List.mem_append_left _ (light_all (d := elems[i].1) ?_ k hk))
                exact List.mem_map.2 ⟨elems[i], List.getElem_mem hi', rfl⟩))
              obtain ⟨-, -, hcc⟩ := World.cells?_some hcs
              refine ⟨(y, fun j => [d0, d1, d2, d3, d4].getD j undef), fun _ => ⟨fun j hj => ?_, hR⟩⟩
              rw [hcc j hj]
              simp [List.getD_eq_getElem?_getD, List.getElem?_eq_getElem (show j < [d0, d1, d2, d3, d4].length from hj)]
            · exact ⟨(V.zero, fun _ => undef), fun h => absurd h hi⟩
          obtain ⟨f, hfk⟩ := Classical.skolem.1 hk
          have hkl : ((List.range len).map fun i => (f i).1).length = len := by simp
          have hkth : ∀ i, i < len → kth ((List.range len).map fun i => (f i).1) i = (f i).1 := fun i hi => by
            simp [kth, List.getD_eq_getElem?_getD, List.getElem?_map, List.getElem?_range hi]
          refine ⟨.mk s n t ns ((List.range len).map fun i => (f i).1), _, _, _, _, _, rfl, ?_⟩
          have hK : Kids w (· < w.heap.size) ((List.range len).map fun i => (f i).1) (some a) := by
            refine ⟨by rw [hkl]; exact hw, a.block, a.off, fun i => (f i).2, fun hne => ?_, fun i hi j hj => ?_, fun i hi => ?_⟩
            · have h0 : 0 < len := by
                rcases Nat.eq_zero_or_pos len with h | h
                · subst h; simp at hne
                · exact h
              have h1 := (hfk 0 h0).1 0 (by omega)
              have h2 : w.cell? a = some ((f 0).2 0) := by simpa [Addr.add] using h1
              have hsp := World.cell?_spot h2
              obtain ⟨b, off, spot⟩ := a
              simp only at hsp
              subst hsp
              have : w.cells? 0 ⟨b, off, none⟩ 1 = some [(f 0).2 0] := cells?_one (Nat.zero_le _) h2
              exact ⟨rfl, World.cells?_block this (by omega)⟩
            · rw [hkl] at hi
              have h1 := (hfk i hi).1 j hj
              have h0 := (hfk 0 (by omega)).1 0 (by omega)
              have h2 : w.cell? a = some ((f 0).2 0) := by simpa [Addr.add] using h0
              have hsp := World.cell?_spot h2
              obtain ⟨b, off, spot⟩ := a
              simp only at hsp
              subst hsp
              rw [add_plain, add_plain] at h1
              exact h1
            · rw [hkl] at hi
              rw [hkth i hi]
              exact (hfk i hi).2
          have := Rep.of_kids (s := s) (n := n) (kc := cap) hS hnc ht hb hK
          rw [hkl] at this
          exact this
end
end Go.Proofs.Ytoohlmiegjaicaa
