import Derived.Test.YtmemijccbmnaaaaGreatArr
import Derived.ProofKit
import Derived.SizedLaws
import Derived.SliceStrings
import Derived.Deep.Slices
import Derived.Test.YtmemijccbmnaaaaGreatJ1
import Derived.Test.YtmemijccbmnaaaaGreatJ3
import Derived.Test.YtmemijccbmnaaaaGreatJ20
import Derived.Test.YtmemijccbmnaaaaGreatPRep
namespace Go.Proofs.YtmemijccbmnaaaaGreat
set_option linter.unusedSimpArgs false
set_option linter.unusedVariables false
open Go.RowKit Go.Deep Go.ChangeShapes

theorem Tryz.cells9 : Tryz.prog.cellsOf 9 = 1 := by kernel_rfl
theorem Tryz.cells3 : Tryz.prog.cellsOf 3 = 1 := by kernel_rfl
theorem Tryz.cells26 : Tryz.prog.cellsOf 26 = 1 := by kernel_rfl
theorem Tryz.bytes9 : Tryz.prog.bytesOf 9 = 16 := by kernel_rfl

theorem add_plain (b off k : Nat) : (⟨b, off, none⟩ : Addr).add k = ⟨b, off + k, none⟩ := by by_cases h : k = 0 <;> simp [Addr.add, h]

section
variable {H : Type} {enc : TypeId × Value → H} {w : World}

/-- A datum's parts, each within the reach. -/
def Light (t : TypeId) (d : DataW H) : Prop := ∀ n ∈ d.weights Tryz.prog t, n ≤ reachBytes

theorem light_all {e : TypeId} : ∀ {l : List (DataW H)} {d : DataW H}, d ∈ l → ∀ n ∈ d.weights Tryz.prog e, n ∈ DataW.weightsAll Tryz.prog e l
  | x :: r, d, hd, n, hn => by
    rw [DataW.weightsAll, List.mem_append]
    rcases List.mem_cons.1 hd with rfl | h
    · exact Or.inl hn
    · exact Or.inr (light_all h n hn)

theorem strs_open {fuel : Nat} {c : Value} {x : DataW H × List MemPlace} (h : DataW.trod enc Tryz.prog w 0 (fun _ => true) true fuel 26 [c] = some x) (hl : Light 26 x.1) :
    ∃ (ns : List ByteArray) (na : Option Addr) (nc : Nat), c = .slice na ns.length nc ∧ Strs w (· < w.heap.size) ns na ∧ ns.length ≤ nc ∧ 16 * ns.length ≤ 281474976710656 := by
  rcases open_strings Tryz.underlying26 Tryz.underlying9 Tryz.cells9 h with ⟨hc, hx⟩ | ⟨a, len, cap, ss, hc, -, hlc, hcm, hsl, rfl, hcell, hsz⟩
  · simp only [List.cons.injEq, and_true] at hc
    exact ⟨[], none, 0, hc, ⟨fun h => absurd rfl h, fun i => by simp [nth], by simp⟩, by simp, by simp⟩
  · simp only [List.cons.injEq, and_true] at hc
    simp only [if_true] at hsl
    have hlen : (ss.take len).length = len := by simp; omega
    refine ⟨ss.take len, some a, cap, by rw [hlen]; exact hc, ⟨fun hne => ?_, fun i => ?_, by rw [hlen]; omega⟩, by omega, ?_⟩
    · have h0 : 0 < len := by
        rcases Nat.eq_zero_or_pos len with h | h
        · subst h; simp at hne
        · exact h
      obtain ⟨b, off, spot⟩ := a
      have hs : spot = none := by simpa [Addr.add] using World.cell?_spot (hcell 0 (by omega))
      subst hs
      refine ⟨b, off, rfl, ?_, fun i hi => ?_⟩
      · have h1 := hcell 0 (by omega)
        have : w.cells? 0 ⟨b, off, none⟩ 1 = some [.string (ss.getD 0 ByteArray.empty)] := cells?_one (Nat.zero_le _) (by simpa [Addr.add] using h1)
        exact World.cells?_block this (by omega)
      · have := hcell i (by omega)
        rw [add_plain] at this
        rw [this]
        simp [nth, List.getD_eq_getElem?_getD, List.getElem?_take, show i < len by omega]
    · simp only [nth, List.getD_eq_getElem?_getD, List.getElem?_take]
      split
      · by_cases hi : i < ss.length
        · rw [List.getElem?_eq_getElem hi]; exact hsz _ (List.getElem_mem hi)
        · rw [List.getElem?_eq_none (by omega)]; simp
      · simp
    · have h1 := hl ((strs (H := H) (ss.take len)).length + (strs (H := H) (ss.drop len)).length |>.mul (Tryz.prog.bytesOf 9)) (by
        simp only [DataW.weights, Tryz.underlying26]; exact List.mem_cons_self ..)
      have h2 : ((strs (H := H) (ss.take len)).length + (strs (H := H) (ss.drop len)).length) * Tryz.prog.bytesOf 9 ≤ reachBytes := h1
      rw [Tryz.bytes9] at h2
      simp only [strs, List.length_map, List.length_take, List.length_drop, reachBytes] at h2
      omega

/-- A list of things of so many cells each, opened. -/
theorem rows_open {X : Type} (z : X) (R : X → List Value → Prop) (sl e : TypeId) (sz by' : Nat) (hu : Tryz.prog.underlying sl = some (.slice e)) (hc : Tryz.prog.cellsOf e = sz) (hby : Tryz.prog.bytesOf e = by') (hs0 : 0 < sz)
    {fuel : Nat} {c : Value} {x : DataW H × List MemPlace} (h : DataW.trod enc Tryz.prog w 0 (fun _ => true) true fuel sl [c] = some x) (hl : Light sl x.1)
    (ih : ∀ m cs y, DataW.trod enc Tryz.prog w 0 (fun _ => true) true m e cs = some y → Light e y.1 → cs.length = sz ∧ ∃ a, R a cs) :
    ∃ (xs : List X) (a : Option Addr) (cap : Nat) (C : Nat → Nat → Value), c = .slice a xs.length cap ∧ xs.length ≤ cap ∧ by' * xs.length ≤ 281474976710656 ∧ Arr w (· < w.heap.size) sz xs.length a C ∧ ∀ i, i < xs.length → R (xs.getD i z) ((List.range sz).map (C i)) := by
  rcases DataW.trod_slice hu h with ⟨hc0, -⟩ | ⟨a, len, cap, elems, rest, n', hfu, hc0, rfl, -, hlc, hcm, hle, hel, -, -⟩
  · simp only [List.cons.injEq, and_true] at hc0
    exact ⟨[], none, 0, fun _ _ => undef, hc0, by simp, by simp, fun h => by simp at h, fun i hi => by simp at hi⟩
  · simp only [List.cons.injEq, and_true] at hc0
    have hw : by' * len ≤ 281474976710656 := by
      have h1 := hl (((elems.map (·.1)).length + (rest.map (·.1)).length) * Tryz.prog.bytesOf e) (by simp only [DataW.weights, hu]; exact List.mem_cons_self ..)
      rw [hby] at h1
      simp only [List.length_map, reachBytes] at h1
      have h2 : len * by' ≤ (elems.length + rest.length) * by' := Nat.mul_le_mul_right _ (by omega)
      have h3 : by' * len = len * by' := Nat.mul_comm _ _
      omega
    have hk : ∀ i, ∃ r : X × (Nat → Value), i < len → (∀ j, j < sz → w.cell? ((a.add (i * sz)).add j) = some (r.2 j)) ∧ R r.1 ((List.range sz).map r.2) := by
      intro i
      by_cases hi : i < len
      · have hi' : i < elems.length := by omega
        have h1 := hel i hi
        rw [List.getElem?_eq_getElem hi', hc] at h1
        obtain ⟨cs', hcs, htr⟩ := Option.bind_eq_some_iff.1 h1
        obtain ⟨hlen, y, hR⟩ := ih n' cs' _ htr (fun k hk => hl k (by
          simp only [DataW.weights, hu]
          refine List.mem_cons_of_mem _ (List.mem_append_left _ (light_all (d := elems[i].1) ?_ k hk))
          exact List.mem_map.2 ⟨elems[i], List.getElem_mem hi', rfl⟩))
        obtain ⟨-, -, hcc⟩ := World.cells?_some hcs
        have hcs2 : (List.range sz).map (fun j => cs'.getD j undef) = cs' := by
          apply List.ext_getElem
          · simp [hlen]
          · intro j h1 h2; simp [List.getD_eq_getElem?_getD, List.getElem?_eq_getElem h2]
        refine ⟨(y, fun j => cs'.getD j undef), fun _ => ⟨fun j hj => ?_, ?_⟩⟩
        · rw [hcc j hj]
          simp [List.getD_eq_getElem?_getD, List.getElem?_eq_getElem (show j < cs'.length by omega)]
        · show R y ((List.range sz).map (fun j => cs'.getD j undef))
          rw [hcs2]; exact hR
      · exact ⟨(z, fun _ => undef), fun h => absurd h hi⟩
    obtain ⟨f, hfk⟩ := Classical.skolem.1 hk
    have hkl : ((List.range len).map fun i => (f i).1).length = len := by simp
    refine ⟨(List.range len).map fun i => (f i).1, some a, cap, fun i => (f i).2, by rw [hkl]; exact hc0, by rw [hkl]; exact hlc, by rw [hkl]; exact hw, ?_, ?_⟩
    · intro h0
      rw [hkl] at h0 ⊢
      have h1 := (hfk 0 h0).1 0 hs0
      have h2 : w.cell? a = some ((f 0).2 0) := by simpa [Addr.add] using h1
      have hsp := World.cell?_spot h2
      obtain ⟨b, off, spot⟩ := a
      simp only at hsp
      subst hsp
      have : w.cells? 0 ⟨b, off, none⟩ 1 = some [(f 0).2 0] := cells?_one (Nat.zero_le _) h2
      refine ⟨b, off, rfl, World.cells?_block this (by omega), fun i hi j hj => ?_⟩
      have h3 := (hfk i hi).1 j hj
      rw [add_plain, add_plain] at h3
      exact h3
    · intro i hi
      rw [hkl] at hi
      have h1 := (hfk i hi).2
      simpa [List.getD_eq_getElem?_getD, List.getElem?_map, List.getElem?_range hi] using h1

end
end Go.Proofs.YtmemijccbmnaaaaGreat

namespace Go.Proofs.YtmemijccbmnaaaaGreat
set_option linter.unusedSimpArgs false
set_option linter.unusedVariables false
open Go.RowKit Go.Deep Go.ChangeShapes

theorem Tryz.cells29 : Tryz.prog.cellsOf 29 = 5 := by kernel_rfl
theorem Tryz.cells27 : Tryz.prog.cellsOf 27 = 1 := by kernel_rfl
theorem Tryz.bytes29 : Tryz.prog.bytesOf 29 = 80 := by kernel_rfl

section
variable {H : Type} {enc : TypeId × Value → H} {w : World}

set_option maxRecDepth 20000 in
theorem rep_open (fuel : Nat) : ∀ (cs : List Value) (x : DataW H × List MemPlace), DataW.trod enc Tryz.prog w 0 (fun _ => true) true fuel 29 cs = some x → Light 29 x.1 →
    ∃ (y : V) (c0 c1 c2 c3 c4 : Value), cs = [c0, c1, c2, c3, c4] ∧ Rep w (· < w.heap.size) y (.agg #[c0, c1, c2, c3, c4]) := by
  induction fuel using Nat.strongRecOn with
  | ind fuel ih =>
    intro cs x h hl
    obtain ⟨xs, m, rfl, rfl, hlen, hxl, hf⟩ := DataW.trod_struct Tryz.underlying29 h
    rw [Tryz.cells29] at hlen
    match cs, hlen with
    | [c0, c1, c2, c3, c4], _ =>
      match xs, hxl with
      | [y0, y1, y2, y3, y4], _ =>
        have f0 : DataW.trod enc Tryz.prog w 0 (fun _ => true) true m 3 [c0] = some y0 := by have := hf 0 _ rfl; simpa [Tryz.cells3] using this
        have f1 : DataW.trod enc Tryz.prog w 0 (fun _ => true) true m 3 [c1] = some y1 := by have := hf 1 _ rfl; simpa [Tryz.cells3] using this
        have f2 : DataW.trod enc Tryz.prog w 0 (fun _ => true) true m 9 [c2] = some y2 := by have := hf 2 _ rfl; simpa [Tryz.cells9] using this
        have f3 : DataW.trod enc Tryz.prog w 0 (fun _ => true) true m 26 [c3] = some y3 := by have := hf 3 _ rfl; simpa [Tryz.cells26] using this
        have f4 : DataW.trod enc Tryz.prog w 0 (fun _ => true) true m 27 [c4] = some y4 := by have := hf 4 _ rfl; simpa [Tryz.cells27] using this
        have l3 : Light 26 y3.1 := fun k hk => hl k (by simp [DataW.weights, Tryz.underlying29, DataW.weightsEach, hk])
        have l4 : Light 27 y4.1 := fun k hk => hl k (by simp [DataW.weights, Tryz.underlying29, DataW.weightsEach, hk])
        clear hf h hl
        obtain ⟨s, e0, -, -⟩ := DataW.trod_int Tryz.underlying3 f0
        obtain ⟨n, e1, -, -⟩ := DataW.trod_int Tryz.underlying3 f1
        obtain ⟨t, e2, -, ht⟩ := DataW.trod_string Tryz.underlying9 f2
        obtain ⟨ns, na, nc, rfl, hS, hnc, hb⟩ := strs_open f3 l3
        simp only [List.cons.injEq, and_true] at e0 e1 e2
        subst e0 e1 e2
        rcases DataW.trod_slice Tryz.underlying27 f4 with ⟨hc, -⟩ | ⟨a, len, cap, elems, rest, n', hfu, hc, rfl, -, hlc, hcm, hle, hel, -, -⟩
        · simp only [List.cons.injEq, and_true] at hc
          subst hc
          exact ⟨.mk s n t ns [], _, _, _, _, _, rfl, Rep.of_kids hS hnc ht hb ⟨by simp, 0, 0, fun _ _ => undef, fun h => absurd rfl h, fun i hi => by simp at hi, fun i hi => by simp at hi⟩⟩
        · simp only [List.cons.injEq, and_true] at hc
          subst hc
          have hw : 80 * len ≤ 281474976710656 := by
            have h1 := l4 (((elems.map (·.1)).length + (rest.map (·.1)).length) * Tryz.prog.bytesOf 29) (by simp only [DataW.weights, Tryz.underlying27]; exact List.mem_cons_self ..)
            rw [Tryz.bytes29] at h1
            simp only [List.length_map, reachBytes] at h1
            omega
          have hk : ∀ i, ∃ r : V × (Nat → Value), i < len → (∀ j, j < 5 → w.cell? ((a.add (i * 5)).add j) = some (r.2 j)) ∧ Rep w (· < w.heap.size) r.1 (.agg #[r.2 0, r.2 1, r.2 2, r.2 3, r.2 4]) := by
            intro i
            by_cases hi : i < len
            · have hi' : i < elems.length := by omega
              have h1 := hel i hi
              rw [List.getElem?_eq_getElem hi', Tryz.cells29] at h1
              obtain ⟨cs', hcs, htr⟩ := Option.bind_eq_some_iff.1 h1
              obtain ⟨y, d0, d1, d2, d3, d4, rfl, hR⟩ := ih n' (by omega) cs' _ htr (fun k hk => l4 k (by
                simp only [DataW.weights, Tryz.underlying27]
                refine List.mem_cons_of_mem _ (List.mem_append_left _ (light_all (d := elems[i].1) ?_ k hk))
                exact List.mem_map.2 ⟨elems[i], List.getElem_mem hi', rfl⟩))
              obtain ⟨-, -, hcc⟩ := World.cells?_some hcs
              refine ⟨(y, fun j => [d0, d1, d2, d3, d4].getD j undef), fun _ => ⟨fun j hj => ?_, hR⟩⟩
              rw [hcc j hj]
              simp [List.getD_eq_getElem?_getD, List.getElem?_eq_getElem (show j < [d0, d1, d2, d3, d4].length from hj)]
            · exact ⟨(V.zero, fun _ => undef), fun h => absurd h hi⟩
          obtain ⟨f, hfk⟩ := Classical.skolem.1 hk
          have hkl : ((List.range len).map fun i => (f i).1).length = len := by simp
          have hkth : ∀ i, i < len → kth ((List.range len).map fun i => (f i).1) i = (f i).1 := fun i hi => by
            simp [kth, List.getD_eq_getElem?_getD, List.getElem?_map, List.getElem?_range hi]
          refine ⟨.mk s n t ns ((List.range len).map fun i => (f i).1), _, _, _, _, _, rfl, ?_⟩
          have hK : Kids w (· < w.heap.size) ((List.range len).map fun i => (f i).1) (some a) := by
            refine ⟨by rw [hkl]; exact hw, a.block, a.off, fun i => (f i).2, fun hne => ?_, fun i hi j hj => ?_, fun i hi => ?_⟩
            · have h0 : 0 < len := by
                rcases Nat.eq_zero_or_pos len with h | h
                · subst h; simp at hne
                · exact h
              have h1 := (hfk 0 h0).1 0 (by omega)
              have h2 : w.cell? a = some ((f 0).2 0) := by simpa [Addr.add] using h1
              have hsp := World.cell?_spot h2
              obtain ⟨b, off, spot⟩ := a
              simp only at hsp
              subst hsp
              have : w.cells? 0 ⟨b, off, none⟩ 1 = some [(f 0).2 0] := cells?_one (Nat.zero_le _) h2
              exact ⟨rfl, World.cells?_block this (by omega)⟩
            · rw [hkl] at hi
              have h1 := (hfk i hi).1 j hj
              have h0 := (hfk 0 (by omega)).1 0 (by omega)
              have h2 : w.cell? a = some ((f 0).2 0) := by simpa [Addr.add] using h0
              have hsp := World.cell?_spot h2
              obtain ⟨b, off, spot⟩ := a
              simp only at hsp
              subst hsp
              rw [add_plain, add_plain] at h1
              exact h1
            · rw [hkl] at hi
              rw [hkth i hi]
              exact (hfk i hi).2
          have := Rep.of_kids (s := s) (n := n) (kc := cap) hS hnc ht hb hK
          rw [hkl] at this
          exact this

end
end Go.Proofs.YtmemijccbmnaaaaGreat

namespace Go.Proofs.YtmemijccbmnaaaaGreat
set_option linter.unusedSimpArgs false
set_option linter.unusedVariables false
open Go.RowKit Go.Deep Go.ChangeShapes

theorem Tryz.cells136 : Tryz.prog.cellsOf 136 = 6 := by kernel_rfl
theorem Tryz.cells60 : Tryz.prog.cellsOf 60 = 3 := by kernel_rfl
theorem Tryz.cells58 : Tryz.prog.cellsOf 58 = 1 := by kernel_rfl
theorem Tryz.bytes136 : Tryz.prog.bytesOf 136 = 96 := by kernel_rfl
theorem Tryz.bytes60 : Tryz.prog.bytesOf 60 = 48 := by kernel_rfl

section
variable {H : Type} {enc : TypeId × Value → H} {w : World}

theorem cell_open (fuel : Nat) (cs : List Value) (x : DataW H × List MemPlace) (h : DataW.trod enc Tryz.prog w 0 (fun _ => true) true fuel 136 cs = some x) (hl : Light 136 x.1) :
    cs.length = 6 ∧ ∃ (f : Ce) (c0 c1 c2 c3 c4 c5 : Value), cs = [c0, c1, c2, c3, c4, c5] ∧ CeRep w (· < w.heap.size) f (.agg #[c0, c1, c2, c3, c4, c5]) := by
  obtain ⟨xs, m, rfl, rfl, hlen, hxl, hf⟩ := DataW.trod_struct Tryz.underlying136 h
  rw [Tryz.cells136] at hlen
  refine ⟨hlen, ?_⟩
  have hxl' : xs.length = 2 := hxl
  clear hxl
  rcases cs with _ | ⟨c0, _ | ⟨c1, _ | ⟨c2, _ | ⟨c3, _ | ⟨c4, _ | ⟨c5, _ | ⟨c6, cs9⟩⟩⟩⟩⟩⟩⟩ <;> simp at hlen
  rcases xs with _ | ⟨y0, _ | ⟨y1, _ | ⟨y2, ys9⟩⟩⟩ <;> simp at hxl'
  have f0 : DataW.trod enc Tryz.prog w 0 (fun _ => true) true m 9 [c0] = some y0 := by have := hf 0 _ rfl; simpa [Tryz.cells9] using this
  have f1 : DataW.trod enc Tryz.prog w 0 (fun _ => true) true m 29 [c1, c2, c3, c4, c5] = some y1 := by have := hf 1 _ rfl; simpa [Tryz.cells9, Tryz.cells29] using this
  have l1 : Light 29 y1.1 := fun k hk => hl k (by simp [DataW.weights, Tryz.underlying136, DataW.weightsEach, hk])
  clear hf h hl
  obtain ⟨nm, e0, -, hn⟩ := DataW.trod_string Tryz.underlying9 f0
  obtain ⟨y, d1, d2, d3, d4, d5, e1, hR⟩ := rep_open m _ _ f1 l1
  simp only [List.cons.injEq, and_true] at e0 e1
  obtain ⟨rfl, rfl, rfl, rfl, rfl⟩ := e1
  subst e0
  exact ⟨⟨nm, y⟩, _, _, _, _, _, _, rfl, _, _, _, _, _, rfl, hR, hn⟩

theorem row_open (fuel : Nat) (cs : List Value) (x : DataW H × List MemPlace) (h : DataW.trod enc Tryz.prog w 0 (fun _ => true) true fuel 60 cs = some x) (hl : Light 60 x.1) :
    cs.length = 3 ∧ ∃ (t : Ro) (c0 c1 c2 : Value), cs = [c0, c1, c2] ∧ RoRep w (· < w.heap.size) t (.agg #[c0, c1, c2]) := by
  obtain ⟨xs, m, rfl, rfl, hlen, hxl, hf⟩ := DataW.trod_struct Tryz.underlying60 h
  rw [Tryz.cells60] at hlen
  refine ⟨hlen, ?_⟩
  have hxl' : xs.length = 3 := hxl
  clear hxl
  rcases cs with _ | ⟨c0, _ | ⟨c1, _ | ⟨c2, _ | ⟨c3, cs9⟩⟩⟩⟩ <;> simp at hlen
  rcases xs with _ | ⟨y0, _ | ⟨y1, _ | ⟨y2, _ | ⟨y3, ys9⟩⟩⟩⟩ <;> simp at hxl'
  have f0 : DataW.trod enc Tryz.prog w 0 (fun _ => true) true m 9 [c0] = some y0 := by have := hf 0 _ rfl; simpa [Tryz.cells9] using this
  have f1 : DataW.trod enc Tryz.prog w 0 (fun _ => true) true m 3 [c1] = some y1 := by have := hf 1 _ rfl; simpa [Tryz.cells3] using this
  have f2 : DataW.trod enc Tryz.prog w 0 (fun _ => true) true m 58 [c2] = some y2 := by have := hf 2 _ rfl; simpa [Tryz.cells58] using this
  have l2 : Light 58 y2.1 := fun k hk => hl k (by simp [DataW.weights, Tryz.underlying60, DataW.weightsEach, hk])
  clear hf h hl
  obtain ⟨nm, e0, -, hn⟩ := DataW.trod_string Tryz.underlying9 f0
  obtain ⟨id, e1, -, -⟩ := DataW.trod_int Tryz.underlying3 f1
  obtain ⟨fs, fa, fc, C, rfl, hfc, hb, hA, hr⟩ := rows_open Ce.zero (fun f cs => ∃ (c0 c1 c2 c3 c4 c5 : Value), cs = [c0, c1, c2, c3, c4, c5] ∧ CeRep w (· < w.heap.size) f (.agg #[c0, c1, c2, c3, c4, c5])) 58 136 6 96 Tryz.underlying58 Tryz.cells136 Tryz.bytes136 (by omega) f2 l2 cell_open
  simp only [List.cons.injEq, and_true] at e0 e1
  subst e0 e1
  refine ⟨⟨nm, id, fs⟩, _, _, _, rfl, fa, fc, rfl, ⟨hb, C, hA, fun i hi => ?_⟩, hfc, hn⟩
  obtain ⟨d0, d1, d2, d3, d4, d5, hd, hR⟩ := hr i hi
  simp only [List.range, List.range.loop, List.map_cons, List.map_nil, List.cons.injEq, and_true] at hd
  obtain ⟨rfl, rfl, rfl, rfl, rfl, rfl⟩ := hd
  exact hR

theorem rowS_open {fuel : Nat} {c : Value} {x : DataW H × List MemPlace} (h : DataW.trod enc Tryz.prog w 0 (fun _ => true) true fuel 25 [c] = some x) (hl : Light 25 x.1) :
    ∃ (rs : List Ro) (ra : Option Addr) (rc : Nat), c = .slice ra rs.length rc ∧ RoReps w (· < w.heap.size) rs ra ∧ rs.length ≤ rc := by
  obtain ⟨rs, ra, rc, C, rfl, hrc, hb, hA, hr⟩ := rows_open Ro.zero (fun t cs => ∃ (c0 c1 c2 : Value), cs = [c0, c1, c2] ∧ RoRep w (· < w.heap.size) t (.agg #[c0, c1, c2])) 25 60 3 48 Tryz.underlying25 Tryz.cells60 Tryz.bytes60 (by omega) h hl row_open
  refine ⟨rs, ra, rc, rfl, ⟨hb, C, hA, fun i hi => ?_⟩, hrc⟩
  obtain ⟨d0, d1, d2, hd, hR⟩ := hr i hi
  simp only [List.range, List.range.loop, List.map_cons, List.map_nil, List.cons.injEq, and_true] at hd
  obtain ⟨rfl, rfl, rfl⟩ := hd
  exact hR
end
end Go.Proofs.YtmemijccbmnaaaaGreat

namespace Go.Proofs.YtmemijccbmnaaaaGreat
set_option linter.unusedSimpArgs false
set_option linter.unusedVariables false
open Go.RowKit Go.Deep Go.ChangeShapes

theorem Tryz.cells31 : Tryz.prog.cellsOf 31 = 8 := by kernel_rfl

section
variable {H : Type} {enc : TypeId × Value → H} {w : World}

theorem change_open (fuel : Nat) (cs : List Value) (x : DataW H × List MemPlace) (h : DataW.trod enc Tryz.prog w 0 (fun _ => true) true fuel 31 cs = some x) (hl : Light 31 x.1) :
    ∃ (c : Ch) (c0 c1 c2 c3 c4 c5 c6 c7 : Value), cs = [c0, c1, c2, c3, c4, c5, c6, c7] ∧ ChRep w (· < w.heap.size) c (.agg #[c0, c1, c2, c3, c4, c5, c6, c7]) := by
  obtain ⟨xs, m, rfl, rfl, hlen, hxl, hf⟩ := DataW.trod_struct Tryz.underlying31 h
  rw [Tryz.cells31] at hlen
  have hxl' : xs.length = 4 := hxl
  clear hxl
  rcases cs with _ | ⟨c0, _ | ⟨c1, _ | ⟨c2, _ | ⟨c3, _ | ⟨c4, _ | ⟨c5, _ | ⟨c6, _ | ⟨c7, _ | ⟨c8, cs9⟩⟩⟩⟩⟩⟩⟩⟩⟩ <;> simp at hlen
  rcases xs with _ | ⟨y0, _ | ⟨y1, _ | ⟨y2, _ | ⟨y3, _ | ⟨y4, ys9⟩⟩⟩⟩⟩ <;> simp at hxl'
  have f0 : DataW.trod enc Tryz.prog w 0 (fun _ => true) true m 9 [c0] = some y0 := by have := hf 0 _ rfl; simpa [Tryz.cells9] using this
  have f1 : DataW.trod enc Tryz.prog w 0 (fun _ => true) true m 3 [c1] = some y1 := by have := hf 1 _ rfl; simpa [Tryz.cells9, Tryz.cells3] using this
  have f2 : DataW.trod enc Tryz.prog w 0 (fun _ => true) true m 9 [c2] = some y2 := by have := hf 2 _ rfl; simpa [Tryz.cells9, Tryz.cells3] using this
  have f3 : DataW.trod enc Tryz.prog w 0 (fun _ => true) true m 29 [c3, c4, c5, c6, c7] = some y3 := by have := hf 3 _ rfl; simpa [Tryz.cells9, Tryz.cells3, Tryz.cells29] using this
  have l3 : Light 29 y3.1 := fun k hk => hl k (by simp [DataW.weights, Tryz.underlying31, DataW.weightsEach, hk])
  clear hf h hl
  obtain ⟨ty, e0, -, hn⟩ := DataW.trod_string Tryz.underlying9 f0
  obtain ⟨id, e1, -, -⟩ := DataW.trod_int Tryz.underlying3 f1
  obtain ⟨fd, e2, -, hn2⟩ := DataW.trod_string Tryz.underlying9 f2
  obtain ⟨y, d1, d2, d3, d4, d5, e3, hR⟩ := rep_open m _ _ f3 l3
  simp only [List.cons.injEq, and_true] at e0 e1 e2 e3
  obtain ⟨rfl, rfl, rfl, rfl, rfl⟩ := e3
  subst e0 e1 e2
  exact ⟨⟨ty, id, fd, y⟩, _, _, _, _, _, _, _, _, rfl, _, _, _, _, _, rfl, hR, hn, hn2⟩
end
end Go.Proofs.YtmemijccbmnaaaaGreat

namespace Go.Proofs.YtmemijccbmnaaaaGreat
set_option linter.unusedSimpArgs false
set_option linter.unusedVariables false
open Go.RowKit Go.Deep Go.ChangeShapes

theorem Tryz.cells24 : Tryz.prog.cellsOf 24 = 2 := by kernel_rfl
theorem Tryz.cells89 : Tryz.prog.cellsOf 89 = 3 := by kernel_rfl
theorem Tryz.cells162 : Tryz.prog.cellsOf 162 = 8 := by kernel_rfl
theorem Tryz.cells4 : Tryz.prog.cellsOf 4 = 1 := by kernel_rfl
theorem Tryz.cells22 : Tryz.prog.cellsOf 22 = 1 := by kernel_rfl
theorem Tryz.cells87 : Tryz.prog.cellsOf 87 = 1 := by kernel_rfl
theorem Tryz.bytes89 : Tryz.prog.bytesOf 89 = 56 := by kernel_rfl
theorem Tryz.bytes162 : Tryz.prog.bytesOf 162 = 64 := by kernel_rfl

section
variable {H : Type} {enc : TypeId × Value → H} {w : World}

theorem field_open (fuel : Nat) (cs : List Value) (x : DataW H × List MemPlace) (h : DataW.trod enc Tryz.prog w 0 (fun _ => true) true fuel 162 cs = some x) (hl : Light 162 x.1) :
    cs.length = 8 ∧ ∃ (f : F) (c0 c1 c2 c3 c4 c5 c6 c7 : Value), cs = [c0, c1, c2, c3, c4, c5, c6, c7] ∧ FRep w (· < w.heap.size) f (.agg #[c0, c1, c2, c3, c4, c5, c6, c7]) := by
  obtain ⟨xs, m, rfl, rfl, hlen, hxl, hf⟩ := DataW.trod_struct Tryz.underlying162 h
  rw [Tryz.cells162] at hlen
  refine ⟨hlen, ?_⟩
  have hxl' : xs.length = 8 := hxl
  clear hxl
  rcases cs with _ | ⟨c0, _ | ⟨c1, _ | ⟨c2, _ | ⟨c3, _ | ⟨c4, _ | ⟨c5, _ | ⟨c6, _ | ⟨c7, _ | ⟨c8, cs9⟩⟩⟩⟩⟩⟩⟩⟩⟩ <;> simp at hlen
  rcases xs with _ | ⟨y0, _ | ⟨y1, _ | ⟨y2, _ | ⟨y3, _ | ⟨y4, _ | ⟨y5, _ | ⟨y6, _ | ⟨y7, _ | ⟨y8, ys9⟩⟩⟩⟩⟩⟩⟩⟩⟩ <;> simp at hxl'
  have f0 : DataW.trod enc Tryz.prog w 0 (fun _ => true) true m 9 [c0] = some y0 := by have := hf 0 _ rfl; simpa [Tryz.cells9] using this
  have f1 : DataW.trod enc Tryz.prog w 0 (fun _ => true) true m 9 [c1] = some y1 := by have := hf 1 _ rfl; simpa [Tryz.cells9] using this
  have f2 : DataW.trod enc Tryz.prog w 0 (fun _ => true) true m 4 [c2] = some y2 := by have := hf 2 _ rfl; simpa [Tryz.cells4] using this
  have f3 : DataW.trod enc Tryz.prog w 0 (fun _ => true) true m 4 [c3] = some y3 := by have := hf 3 _ rfl; simpa [Tryz.cells4] using this
  have f4 : DataW.trod enc Tryz.prog w 0 (fun _ => true) true m 4 [c4] = some y4 := by have := hf 4 _ rfl; simpa [Tryz.cells4] using this
  have f5 : DataW.trod enc Tryz.prog w 0 (fun _ => true) true m 4 [c5] = some y5 := by have := hf 5 _ rfl; simpa [Tryz.cells4] using this
  have f6 : DataW.trod enc Tryz.prog w 0 (fun _ => true) true m 4 [c6] = some y6 := by have := hf 6 _ rfl; simpa [Tryz.cells4] using this
  have f7 : DataW.trod enc Tryz.prog w 0 (fun _ => true) true m 26 [c7] = some y7 := by have := hf 7 _ rfl; simpa [Tryz.cells26] using this
  have l7 : Light 26 y7.1 := fun k hk => hl k (by simp [DataW.weights, Tryz.underlying162, DataW.weightsEach, hk])
  clear hf h hl
  obtain ⟨nm, e0, -, hn⟩ := DataW.trod_string Tryz.underlying9 f0
  obtain ⟨of, e1, -, ho⟩ := DataW.trod_string Tryz.underlying9 f1
  obtain ⟨b2, e2, -⟩ := DataW.trod_bool Tryz.underlying4 f2
  obtain ⟨b3, e3, -⟩ := DataW.trod_bool Tryz.underlying4 f3
  obtain ⟨b4, e4, -⟩ := DataW.trod_bool Tryz.underlying4 f4
  obtain ⟨b5, e5, -⟩ := DataW.trod_bool Tryz.underlying4 f5
  obtain ⟨b6, e6, -⟩ := DataW.trod_bool Tryz.underlying4 f6
  obtain ⟨ns, na, nc, rfl, hS, hnc, hb⟩ := strs_open f7 l7
  simp only [List.cons.injEq, and_true] at e0 e1 e2 e3 e4 e5 e6
  subst e0 e1 e2 e3 e4 e5 e6
  exact ⟨⟨nm, of, b2, b3, b4, b5, b6, ns⟩, _, _, _, _, _, _, _, _, rfl, na, nc, rfl, hS, hnc, hn, ho, hb⟩

theorem type_open (fuel : Nat) (cs : List Value) (x : DataW H × List MemPlace) (h : DataW.trod enc Tryz.prog w 0 (fun _ => true) true fuel 89 cs = some x) (hl : Light 89 x.1) :
    cs.length = 3 ∧ ∃ (t : T) (c0 c1 c2 : Value), cs = [c0, c1, c2] ∧ TRep w (· < w.heap.size) t (.agg #[c0, c1, c2]) := by
  obtain ⟨xs, m, rfl, rfl, hlen, hxl, hf⟩ := DataW.trod_struct Tryz.underlying89 h
  rw [Tryz.cells89] at hlen
  refine ⟨hlen, ?_⟩
  have hxl' : xs.length = 3 := hxl
  clear hxl
  rcases cs with _ | ⟨c0, _ | ⟨c1, _ | ⟨c2, _ | ⟨c3, cs9⟩⟩⟩⟩ <;> simp at hlen
  rcases xs with _ | ⟨y0, _ | ⟨y1, _ | ⟨y2, _ | ⟨y3, ys9⟩⟩⟩⟩ <;> simp at hxl'
  have f0 : DataW.trod enc Tryz.prog w 0 (fun _ => true) true m 9 [c0] = some y0 := by have := hf 0 _ rfl; simpa [Tryz.cells9] using this
  have f1 : DataW.trod enc Tryz.prog w 0 (fun _ => true) true m 9 [c1] = some y1 := by have := hf 1 _ rfl; simpa [Tryz.cells9] using this
  have f2 : DataW.trod enc Tryz.prog w 0 (fun _ => true) true m 87 [c2] = some y2 := by have := hf 2 _ rfl; simpa [Tryz.cells87] using this
  have l2 : Light 87 y2.1 := fun k hk => hl k (by simp [DataW.weights, Tryz.underlying89, DataW.weightsEach, hk])
  clear hf h hl
  obtain ⟨nm, e0, -, hn⟩ := DataW.trod_string Tryz.underlying9 f0
  obtain ⟨ky, e1, -, ho⟩ := DataW.trod_string Tryz.underlying9 f1
  obtain ⟨fs, fa, fc, C, rfl, hfc, hb, hA, hr⟩ := rows_open F.zero (fun f cs => ∃ (c0 c1 c2 c3 c4 c5 c6 c7 : Value), cs = [c0, c1, c2, c3, c4, c5, c6, c7] ∧ FRep w (· < w.heap.size) f (.agg #[c0, c1, c2, c3, c4, c5, c6, c7])) 87 162 8 64 Tryz.underlying87 Tryz.cells162 Tryz.bytes162 (by omega) f2 l2 field_open
  simp only [List.cons.injEq, and_true] at e0 e1
  subst e0 e1
  refine ⟨⟨nm, ky, fs⟩, _, _, _, rfl, fa, fc, rfl, ⟨hb, C, hA, fun i hi => ?_⟩, hfc, hn, ho⟩
  obtain ⟨d0, d1, d2, d3, d4, d5, d6, d7, hd, hR⟩ := hr i hi
  simp only [List.range, List.range.loop, List.map_cons, List.map_nil, List.cons.injEq, and_true] at hd
  obtain ⟨rfl, rfl, rfl, rfl, rfl, rfl, rfl, rfl⟩ := hd
  exact hR

theorem part_open (fuel : Nat) (cs : List Value) (x : DataW H × List MemPlace) (h : DataW.trod enc Tryz.prog w 0 (fun _ => true) true fuel 24 cs = some x) (hl : Light 24 x.1) :
    ∃ (p : Pt) (c0 c1 : Value), cs = [c0, c1] ∧ PRep w (· < w.heap.size) p (.agg #[c0, c1]) := by
  obtain ⟨xs, m, rfl, rfl, hlen, hxl, hf⟩ := DataW.trod_struct Tryz.underlying24 h
  rw [Tryz.cells24] at hlen
  have hxl' : xs.length = 2 := hxl
  clear hxl
  rcases cs with _ | ⟨c0, _ | ⟨c1, _ | ⟨c2, cs9⟩⟩⟩ <;> simp at hlen
  rcases xs with _ | ⟨y0, _ | ⟨y1, _ | ⟨y2, ys9⟩⟩⟩ <;> simp at hxl'
  have f0 : DataW.trod enc Tryz.prog w 0 (fun _ => true) true m 9 [c0] = some y0 := by have := hf 0 _ rfl; simpa [Tryz.cells9] using this
  have f1 : DataW.trod enc Tryz.prog w 0 (fun _ => true) true m 22 [c1] = some y1 := by have := hf 1 _ rfl; simpa [Tryz.cells22] using this
  have l1 : Light 22 y1.1 := fun k hk => hl k (by simp [DataW.weights, Tryz.underlying24, DataW.weightsEach, hk])
  clear hf h hl
  obtain ⟨nm, e0, -, hn⟩ := DataW.trod_string Tryz.underlying9 f0
  obtain ⟨ts, ta, tc, C, rfl, htc, hb, hA, hr⟩ := rows_open T.zero (fun t cs => ∃ (c0 c1 c2 : Value), cs = [c0, c1, c2] ∧ TRep w (· < w.heap.size) t (.agg #[c0, c1, c2])) 22 89 3 56 Tryz.underlying22 Tryz.cells89 Tryz.bytes89 (by omega) f1 l1 type_open
  simp only [List.cons.injEq, and_true] at e0
  subst e0
  refine ⟨⟨nm, ts⟩, _, _, rfl, ta, tc, rfl, ⟨hb, C, hA, fun i hi => ?_⟩, htc, hn⟩
  obtain ⟨d0, d1, d2, hd, hR⟩ := hr i hi
  simp only [List.range, List.range.loop, List.map_cons, List.map_nil, List.cons.injEq, and_true] at hd
  obtain ⟨rfl, rfl, rfl⟩ := hd
  exact hR
end
end Go.Proofs.YtmemijccbmnaaaaGreat
