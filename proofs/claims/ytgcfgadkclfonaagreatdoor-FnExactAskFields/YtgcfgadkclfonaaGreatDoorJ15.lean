import Derived.Test.YtgcfgadkclfonaaGreatDoorArr
import Derived.ProofKit
import Derived.SizedLaws
import Derived.SliceStrings
import Derived.Deep.Slices
import Derived.Test.YtgcfgadkclfonaaGreatDoorJ1
import Derived.Test.YtgcfgadkclfonaaGreatDoorPRep
import Derived.Test.YtgcfgadkclfonaaGreatDoorJ12
import Derived.Test.YtgcfgadkclfonaaGreatDoorRows
import Derived.Test.YtgcfgadkclfonaaGreatDoorCards
import Derived.Test.YtgcfgadkclfonaaGreatDoorTie
import Derived.LaidMore
import Derived.OpenShut
import Derived.Stop.Joined
import Derived.Lib.LaidTab
import Derived.SevenTiedAt
import Derived.ChangeOld
import Derived.JoinedOf
import Derived.Stop.LaidErr
namespace Go.Proofs.YtgcfgadkclfonaaGreatDoor
set_option linter.unusedSimpArgs false
set_option linter.unusedVariables false
open Go.RowKit Go.Deep Go.ChangeShapes

theorem Tryz.cells9 : Tryz.prog.cellsOf 9 = 1 := by kernel_rfl
theorem Tryz.cells3 : Tryz.prog.cellsOf 3 = 1 := by kernel_rfl
theorem Tryz.cells28 : Tryz.prog.cellsOf 28 = 1 := by kernel_rfl
theorem Tryz.bytes9 : Tryz.prog.bytesOf 9 = 16 := by kernel_rfl

theorem add_plain (b off k : Nat) : (⟨b, off, none⟩ : Addr).add k = ⟨b, off + k, none⟩ := by by_cases h : k = 0 <;> simp [Addr.add, h]

section
variable {H : Type} {enc : TypeId × Value → H} {w : World}

/-- A datum's parts, each within the reach. -/
def Light (t : TypeId) (d : DataW H) : Prop := ∀ n ∈ d.weights Tryz.prog t, n ≤ reachBytes

theorem light_all {e : TypeId} : ∀ {l : List (DataW H)} {d : DataW H}, d ∈ l → ∀ n ∈ d.weights Tryz.prog e, n ∈ DataW.weightsAll Tryz.prog e l
  | x :: r, d, hd, n, hn => by
    rw [DataW.weightsAll, List.mem_append]
    rcases List.mem_cons.1 hd with rfl | h
    · exact Or.inl hn
    · exact Or.inr (light_all h n hn)

theorem strs_open {fuel : Nat} {c : Value} {x : DataW H × List MemPlace} (h : DataW.trod enc Tryz.prog w 0 (fun _ => true) true fuel 28 [c] = some x) (hl : Light 28 x.1) :
    ∃ (ns : List ByteArray) (na : Option Addr) (nc : Nat), c = .slice na ns.length nc ∧ Strs w (· < w.heap.size) ns na ∧ ns.length ≤ nc ∧ 16 * ns.length ≤ 281474976710656 := by
  rcases open_strings Tryz.underlying28 Tryz.underlying9 Tryz.cells9 h with ⟨hc, hx⟩ | ⟨a, len, cap, ss, hc, -, hlc, hcm, hsl, rfl, hcell, hsz⟩
  · simp only [List.cons.injEq, and_true] at hc
    exact ⟨[], none, 0, hc, ⟨fun h => absurd rfl h, fun i => by simp [nth], by simp⟩, by simp, by simp⟩
  · simp only [List.cons.injEq, and_true] at hc
    simp only [if_true] at hsl
    have hlen : (ss.take len).length = len := by simp; omega
    refine ⟨ss.take len, some a, cap, by rw [hlen]; exact hc, ⟨fun hne => ?_, fun i => ?_, by rw [hlen]; omega⟩, by omega, ?_⟩
    · have h0 : 0 < len := by
        rcases Nat.eq_zero_or_pos len with h | h
        · subst h; simp at hne
        · exact h
      obtain ⟨b, off, spot⟩ := a
      have hs : spot = none := by simpa [Addr.add] using World.cell?_spot (hcell 0 (by omega))
      subst hs
      refine ⟨b, off, rfl, ?_, fun i hi => ?_⟩
      · have h1 := hcell 0 (by omega)
        have : w.cells? 0 ⟨b, off, none⟩ 1 = some [.string (ss.getD 0 ByteArray.empty)] := cells?_one (Nat.zero_le _) (by simpa [Addr.add] using h1)
        exact World.cells?_block this (by omega)
      · have := hcell i (by omega)
        rw [add_plain] at this
        rw [this]
        simp [nth, List.getD_eq_getElem?_getD, List.getElem?_take, show i < len by omega]
    · simp only [nth, List.getD_eq_getElem?_getD, List.getElem?_take]
      split
      · by_cases hi : i < ss.length
        · rw [List.getElem?_eq_getElem hi]; exact hsz _ (List.getElem_mem hi)
        · rw [List.getElem?_eq_none (by omega)]; simp
      · simp
    · have h1 := hl ((strs (H := H) (ss.take len)).length + (strs (H := H) (ss.drop len)).length |>.mul (Tryz.prog.bytesOf 9)) (by
        simp only [DataW.weights, Tryz.underlying28]; exact List.mem_cons_self ..)
      have h2 : ((strs (H := H) (ss.take len)).length + (strs (H := H) (ss.drop len)).length) * Tryz.prog.bytesOf 9 ≤ reachBytes := h1
      rw [Tryz.bytes9] at h2
      simp only [strs, List.length_map, List.length_take, List.length_drop, reachBytes] at h2
      omega

/-- A list of things of so many cells each, opened. -/
theorem rows_open {X : Type} (z : X) (R : X → List Value → Prop) (sl e : TypeId) (sz by' : Nat) (hu : Tryz.prog.underlying sl = some (.slice e)) (hc : Tryz.prog.cellsOf e = sz) (hby : Tryz.prog.bytesOf e = by') (hs0 : 0 < sz)
    {fuel : Nat} {c : Value} {x : DataW H × List MemPlace} (h : DataW.trod enc Tryz.prog w 0 (fun _ => true) true fuel sl [c] = some x) (hl : Light sl x.1)
    (ih : ∀ m cs y, DataW.trod enc Tryz.prog w 0 (fun _ => true) true m e cs = some y → Light e y.1 → cs.length = sz ∧ ∃ a, R a cs) :
    ∃ (xs : List X) (a : Option Addr) (cap : Nat) (C : Nat → Nat → Value), c = .slice a xs.length cap ∧ xs.length ≤ cap ∧ by' * xs.length ≤ 281474976710656 ∧ Arr w (· < w.heap.size) sz xs.length a C ∧ ∀ i, i < xs.length → R (xs.getD i z) ((List.range sz).map (C i)) := by
  rcases DataW.trod_slice hu h with ⟨hc0, -⟩ | ⟨a, len, cap, elems, rest, n', hfu, hc0, rfl, -, hlc, hcm, hle, hel, -, -⟩
  · simp only [List.cons.injEq, and_true] at hc0
    exact ⟨[], none, 0, fun _ _ => undef, hc0, by simp, by simp, fun h => by simp at h, fun i hi => by simp at hi⟩
  · simp only [List.cons.injEq, and_true] at hc0
    have hw : by' * len ≤ 281474976710656 := by
      have h1 := hl (((elems.map (·.1)).length + (rest.map (·.1)).length) * Tryz.prog.bytesOf e) (by simp only [DataW.weights, hu]; exact List.mem_cons_self ..)
      rw [hby] at h1
      simp only [List.length_map, reachBytes] at h1
      have h2 : len * by' ≤ (elems.length + rest.length) * by' := Nat.mul_le_mul_right _ (by omega)
      have h3 : by' * len = len * by' := Nat.mul_comm _ _
      omega
    have hk : ∀ i, ∃ r : X × (Nat → Value), i < len → (∀ j, j < sz → w.cell? ((a.add (i * sz)).add j) = some (r.2 j)) ∧ R r.1 ((List.range sz).map r.2) := by
      intro i
      by_cases hi : i < len
      · have hi' : i < elems.length := by omega
        have h1 := hel i hi
        rw [List.getElem?_eq_getElem hi', hc] at h1
        obtain ⟨cs', hcs, htr⟩ := Option.bind_eq_some_iff.1 h1
        obtain ⟨hlen, y, hR⟩ := ih n' cs' _ htr (fun k hk => hl k (by
          simp only [DataW.weights, hu]
          refine List.mem_cons_of_mem _ (List.mem_append_left _ (light_all (d := elems[i].1) ?_ k hk))
          exact List.mem_map.2 ⟨elems[i], List.getElem_mem hi', rfl⟩))
        obtain ⟨-, -, hcc⟩ := World.cells?_some hcs
        have hcs2 : (List.range sz).map (fun j => cs'.getD j undef) = cs' := by
          apply List.ext_getElem
          · simp [hlen]
          · intro j h1 h2; simp [List.getD_eq_getElem?_getD, List.getElem?_eq_getElem h2]
        refine ⟨(y, fun j => cs'.getD j undef), fun _ => ⟨fun j hj => ?_, ?_⟩⟩
        · rw [hcc j hj]
          simp [List.getD_eq_getElem?_getD, List.getElem?_eq_getElem (show j < cs'.length by omega)]
        · show R y ((List.range sz).map (fun j => cs'.getD j undef))
          rw [hcs2]; exact hR
      · exact ⟨(z, fun _ => undef), fun h => absurd h hi⟩
    obtain ⟨f, hfk⟩ := Classical.skolem.1 hk
    have hkl : ((List.range len).map fun i => (f i).1).length = len := by simp
    refine ⟨(List.range len).map fun i => (f i).1, some a, cap, fun i => (f i).2, by rw [hkl]; exact hc0, by rw [hkl]; exact hlc, by rw [hkl]; exact hw, ?_, ?_⟩
    · intro h0
      rw [hkl] at h0 ⊢
      have h1 := (hfk 0 h0).1 0 hs0
      have h2 : w.cell? a = some ((f 0).2 0) := by simpa [Addr.add] using h1
      have hsp := World.cell?_spot h2
      obtain ⟨b, off, spot⟩ := a
      simp only at hsp
      subst hsp
      have : w.cells? 0 ⟨b, off, none⟩ 1 = some [(f 0).2 0] := cells?_one (Nat.zero_le _) h2
      refine ⟨b, off, rfl, World.cells?_block this (by omega), fun i hi j hj => ?_⟩
      have h3 := (hfk i hi).1 j hj
      rw [add_plain, add_plain] at h3
      exact h3
    · intro i hi
      rw [hkl] at hi
      have h1 := (hfk i hi).2
      simpa [List.getD_eq_getElem?_getD, List.getElem?_map, List.getElem?_range hi] using h1

end
end Go.Proofs.YtgcfgadkclfonaaGreatDoor

namespace Go.Proofs.YtgcfgadkclfonaaGreatDoor
set_option linter.unusedSimpArgs false
set_option linter.unusedVariables false
open Go.RowKit Go.Deep Go.ChangeShapes

theorem Tryz.cells4 : Tryz.prog.cellsOf 4 = 1 := by kernel_rfl
theorem Tryz.cells52 : Tryz.prog.cellsOf 52 = 5 := by kernel_rfl
theorem Tryz.cells25 : Tryz.prog.cellsOf 25 = 1 := by kernel_rfl
theorem Tryz.bytes52 : Tryz.prog.bytesOf 52 = 72 := by kernel_rfl

section
variable {H : Type} {enc : TypeId × Value → H} {w : World}

/-- A list of things of so many cells each, opened. -/
theorem rows_openB {X : Type} (z : X) (R : X → List Value → Prop) (sl e : TypeId) (sz by' : Nat) (hu : Tryz.prog.underlying sl = some (.slice e)) (hc : Tryz.prog.cellsOf e = sz) (hby : Tryz.prog.bytesOf e = by') (hs0 : 0 < sz)
    {fuel : Nat} {c : Value} {x : DataW H × List MemPlace} (h : DataW.trod enc Tryz.prog w 0 (fun _ => true) true fuel sl [c] = some x) (hl : Light sl x.1)
    (ih : ∀ m cs y, m < fuel → DataW.trod enc Tryz.prog w 0 (fun _ => true) true m e cs = some y → Light e y.1 → cs.length = sz ∧ ∃ a, R a cs) :
    ∃ (xs : List X) (a : Option Addr) (cap : Nat) (C : Nat → Nat → Value), c = .slice a xs.length cap ∧ xs.length ≤ cap ∧ by' * xs.length ≤ 281474976710656 ∧ Arr w (· < w.heap.size) sz xs.length a C ∧ ∀ i, i < xs.length → R (xs.getD i z) ((List.range sz).map (C i)) := by
  rcases DataW.trod_slice hu h with ⟨hc0, -⟩ | ⟨a, len, cap, elems, rest, n', hfu, hc0, rfl, -, hlc, hcm, hle, hel, -, -⟩
  · simp only [List.cons.injEq, and_true] at hc0
    exact ⟨[], none, 0, fun _ _ => undef, hc0, by simp, by simp, fun h => by simp at h, fun i hi => by simp at hi⟩
  · simp only [List.cons.injEq, and_true] at hc0
    have hw : by' * len ≤ 281474976710656 := by
      have h1 := hl (((elems.map (·.1)).length + (rest.map (·.1)).length) * Tryz.prog.bytesOf e) (by simp only [DataW.weights, hu]; exact List.mem_cons_self ..)
      rw [hby] at h1
      simp only [List.length_map, reachBytes] at h1
      have h2 : len * by' ≤ (elems.length + rest.length) * by' := Nat.mul_le_mul_right _ (by omega)
      have h3 : by' * len = len * by' := Nat.mul_comm _ _
      omega
    have hk : ∀ i, ∃ r : X × (Nat → Value), i < len → (∀ j, j < sz → w.cell? ((a.add (i * sz)).add j) = some (r.2 j)) ∧ R r.1 ((List.range sz).map r.2) := by
      intro i
      by_cases hi : i < len
      · have hi' : i < elems.length := by omega
        have h1 := hel i hi
        rw [List.getElem?_eq_getElem hi', hc] at h1
        obtain ⟨cs', hcs, htr⟩ := Option.bind_eq_some_iff.1 h1
        obtain ⟨hlen, y, hR⟩ := ih n' cs' _ (by omega) htr (fun k hk => hl k (by
          simp only [DataW.weights, hu]
          refine List.mem_cons_of_mem _ (List.mem_append_left _ (light_all (d := elems[i].1) ?_ k hk))
          exact List.mem_map.2 ⟨elems[i], List.getElem_mem hi', rfl⟩))
        obtain ⟨-, -, hcc⟩ := World.cells?_some hcs
        have hcs2 : (List.range sz).map (fun j => cs'.getD j undef) = cs' := by
          apply List.ext_getElem
          · simp [hlen]
          · intro j h1 h2; simp [List.getD_eq_getElem?_getD, List.getElem?_eq_getElem h2]
        refine ⟨(y, fun j => cs'.getD j undef), fun _ => ⟨fun j hj => ?_, ?_⟩⟩
        · rw [hcc j hj]
          simp [List.getD_eq_getElem?_getD, List.getElem?_eq_getElem (show j < cs'.length by omega)]
        · show R y ((List.range sz).map (fun j => cs'.getD j undef))
          rw [hcs2]; exact hR
      · exact ⟨(z, fun _ => undef), fun h => absurd h hi⟩
    obtain ⟨f, hfk⟩ := Classical.skolem.1 hk
    have hkl : ((List.range len).map fun i => (f i).1).length = len := by simp
    refine ⟨(List.range len).map fun i => (f i).1, some a, cap, fun i => (f i).2, by rw [hkl]; exact hc0, by rw [hkl]; exact hlc, by rw [hkl]; exact hw, ?_, ?_⟩
    · intro h0
      rw [hkl] at h0 ⊢
      have h1 := (hfk 0 h0).1 0 hs0
      have h2 : w.cell? a = some ((f 0).2 0) := by simpa [Addr.add] using h1
      have hsp := World.cell?_spot h2
      obtain ⟨b, off, spot⟩ := a
      simp only at hsp
      subst hsp
      have : w.cells? 0 ⟨b, off, none⟩ 1 = some [(f 0).2 0] := cells?_one (Nat.zero_le _) h2
      refine ⟨b, off, rfl, World.cells?_block this (by omega), fun i hi j hj => ?_⟩
      have h3 := (hfk i hi).1 j hj
      rw [add_plain, add_plain] at h3
      exact h3
    · intro i hi
      rw [hkl] at hi
      have h1 := (hfk i hi).2
      simpa [List.getD_eq_getElem?_getD, List.getElem?_map, List.getElem?_range hi] using h1

theorem sel_open (fuel : Nat) : ∀ (cs : List Value) (x : DataW H × List MemPlace), DataW.trod enc Tryz.prog w 0 (fun _ => true) true fuel 52 cs = some x → Light 52 x.1 →
    cs.length = 5 ∧ ∃ (y : Se) (c0 c1 c2 c3 c4 : Value), cs = [c0, c1, c2, c3, c4] ∧ SeRep w (· < w.heap.size) y (.agg #[c0, c1, c2, c3, c4]) := by
  induction fuel using Nat.strongRecOn with
  | ind fuel ih =>
    intro cs x h hl
    obtain ⟨xs, m, rfl, rfl, hlen, hxl, hf⟩ := DataW.trod_struct Tryz.underlying52 h
    rw [Tryz.cells52] at hlen
    refine ⟨hlen, ?_⟩
    have hxl' : xs.length = 5 := hxl
    clear hxl
    rcases cs with _ | ⟨c0, _ | ⟨c1, _ | ⟨c2, _ | ⟨c3, _ | ⟨c4, _ | ⟨c5, cs9⟩⟩⟩⟩⟩⟩ <;> simp at hlen
    rcases xs with _ | ⟨y0, _ | ⟨y1, _ | ⟨y2, _ | ⟨y3, _ | ⟨y4, _ | ⟨y5, ys9⟩⟩⟩⟩⟩⟩ <;> simp at hxl'
    have f0 : DataW.trod enc Tryz.prog w 0 (fun _ => true) true m 9 [c0] = some y0 := by have := hf 0 _ rfl; simpa [Tryz.cells9] using this
    have f1 : DataW.trod enc Tryz.prog w 0 (fun _ => true) true m 9 [c1] = some y1 := by have := hf 1 _ rfl; simpa [Tryz.cells9] using this
    have f2 : DataW.trod enc Tryz.prog w 0 (fun _ => true) true m 4 [c2] = some y2 := by have := hf 2 _ rfl; simpa [Tryz.cells4] using this
    have f3 : DataW.trod enc Tryz.prog w 0 (fun _ => true) true m 3 [c3] = some y3 := by have := hf 3 _ rfl; simpa [Tryz.cells3] using this
    have f4 : DataW.trod enc Tryz.prog w 0 (fun _ => true) true m 25 [c4] = some y4 := by have := hf 4 _ rfl; simpa [Tryz.cells25] using this
    have l4 : Light 25 y4.1 := fun k hk => hl k (by simp [DataW.weights, Tryz.underlying52, DataW.weightsEach, hk])
    clear hf h hl
    obtain ⟨s, e0, -, hs⟩ := DataW.trod_string Tryz.underlying9 f0
    obtain ⟨n, e1, -, hn⟩ := DataW.trod_string Tryz.underlying9 f1
    obtain ⟨o, e2, -⟩ := DataW.trod_bool Tryz.underlying4 f2
    obtain ⟨id, e3, -, -⟩ := DataW.trod_int Tryz.underlying3 f3
    obtain ⟨ks, ka, kc, C, rfl, hkc, hb, hA, hr⟩ := rows_openB Se.zero (fun f cs => ∃ (c0 c1 c2 c3 c4 : Value), cs = [c0, c1, c2, c3, c4] ∧ SeRep w (· < w.heap.size) f (.agg #[c0, c1, c2, c3, c4])) 25 52 5 72 Tryz.underlying25 Tryz.cells52 Tryz.bytes52 (by omega) f4 l4 (fun m' cs y hm => ih m' (by omega) cs y)
    simp only [List.cons.injEq, and_true] at e0 e1 e2 e3
    subst e0 e1 e2 e3
    refine ⟨⟨s, n, o, id, ks⟩, _, _, _, _, _, rfl, SeRep.of_kids hs hn ⟨hb, C, hA, fun i hi => ?_⟩⟩
    obtain ⟨d0, d1, d2, d3, d4, hd, hR⟩ := hr i hi
    simp only [List.range, List.range.loop, List.map_cons, List.map_nil, List.cons.injEq, and_true] at hd
    obtain ⟨rfl, rfl, rfl, rfl, rfl⟩ := hd
    exact hR

theorem sels_open {fuel : Nat} {c : Value} {x : DataW H × List MemPlace} (h : DataW.trod enc Tryz.prog w 0 (fun _ => true) true fuel 25 [c] = some x) (hl : Light 25 x.1) :
    ∃ (ks : List Se) (ka : Option Addr) (kc : Nat), c = .slice ka ks.length kc ∧ SeReps w (· < w.heap.size) ks ka := by
  obtain ⟨ks, ka, kc, C, rfl, hkc, hb, hA, hr⟩ := rows_openB Se.zero (fun f cs => ∃ (c0 c1 c2 c3 c4 : Value), cs = [c0, c1, c2, c3, c4] ∧ SeRep w (· < w.heap.size) f (.agg #[c0, c1, c2, c3, c4])) 25 52 5 72 Tryz.underlying25 Tryz.cells52 Tryz.bytes52 (by omega) h hl (fun m' cs y _ => sel_open m' cs y)
  refine ⟨ks, ka, kc, rfl, hb, C, hA, fun i hi => ?_⟩
  obtain ⟨d0, d1, d2, d3, d4, hd, hR⟩ := hr i hi
  simp only [List.range, List.range.loop, List.map_cons, List.map_nil, List.cons.injEq, and_true] at hd
  obtain ⟨rfl, rfl, rfl, rfl, rfl⟩ := hd
  exact hR

end
end Go.Proofs.YtgcfgadkclfonaaGreatDoor

namespace Go.Proofs.YtgcfgadkclfonaaGreatDoor
set_option linter.unusedSimpArgs false
set_option linter.unusedVariables false
open Go.RowKit Go.Deep Go.ChangeShapes

theorem Tryz.cells24 : Tryz.prog.cellsOf 24 = 2 := by kernel_rfl
theorem Tryz.cells85 : Tryz.prog.cellsOf 85 = 3 := by kernel_rfl
theorem Tryz.cells150 : Tryz.prog.cellsOf 150 = 8 := by kernel_rfl
theorem Tryz.cells22 : Tryz.prog.cellsOf 22 = 1 := by kernel_rfl
theorem Tryz.cells83 : Tryz.prog.cellsOf 83 = 1 := by kernel_rfl
theorem Tryz.bytes85 : Tryz.prog.bytesOf 85 = 56 := by kernel_rfl
theorem Tryz.bytes150 : Tryz.prog.bytesOf 150 = 64 := by kernel_rfl

section
variable {H : Type} {enc : TypeId × Value → H} {w : World}

theorem field_open (fuel : Nat) (cs : List Value) (x : DataW H × List MemPlace) (h : DataW.trod enc Tryz.prog w 0 (fun _ => true) true fuel 150 cs = some x) (hl : Light 150 x.1) :
    cs.length = 8 ∧ ∃ (f : F) (c0 c1 c2 c3 c4 c5 c6 c7 : Value), cs = [c0, c1, c2, c3, c4, c5, c6, c7] ∧ FRep w (· < w.heap.size) f (.agg #[c0, c1, c2, c3, c4, c5, c6, c7]) := by
  obtain ⟨xs, m, rfl, rfl, hlen, hxl, hf⟩ := DataW.trod_struct Tryz.underlying150 h
  rw [Tryz.cells150] at hlen
  refine ⟨hlen, ?_⟩
  have hxl' : xs.length = 8 := hxl
  clear hxl
  rcases cs with _ | ⟨c0, _ | ⟨c1, _ | ⟨c2, _ | ⟨c3, _ | ⟨c4, _ | ⟨c5, _ | ⟨c6, _ | ⟨c7, _ | ⟨c8, cs9⟩⟩⟩⟩⟩⟩⟩⟩⟩ <;> simp at hlen
  rcases xs with _ | ⟨y0, _ | ⟨y1, _ | ⟨y2, _ | ⟨y3, _ | ⟨y4, _ | ⟨y5, _ | ⟨y6, _ | ⟨y7, _ | ⟨y8, ys9⟩⟩⟩⟩⟩⟩⟩⟩⟩ <;> simp at hxl'
  have f0 : DataW.trod enc Tryz.prog w 0 (fun _ => true) true m 9 [c0] = some y0 := by have := hf 0 _ rfl; simpa [Tryz.cells9] using this
  have f1 : DataW.trod enc Tryz.prog w 0 (fun _ => true) true m 9 [c1] = some y1 := by have := hf 1 _ rfl; simpa [Tryz.cells9] using this
  have f2 : DataW.trod enc Tryz.prog w 0 (fun _ => true) true m 4 [c2] = some y2 := by have := hf 2 _ rfl; simpa [Tryz.cells4] using this
  have f3 : DataW.trod enc Tryz.prog w 0 (fun _ => true) true m 4 [c3] = some y3 := by have := hf 3 _ rfl; simpa [Tryz.cells4] using this
  have f4 : DataW.trod enc Tryz.prog w 0 (fun _ => true) true m 4 [c4] = some y4 := by have := hf 4 _ rfl; simpa [Tryz.cells4] using this
  have f5 : DataW.trod enc Tryz.prog w 0 (fun _ => true) true m 4 [c5] = some y5 := by have := hf 5 _ rfl; simpa [Tryz.cells4] using this
  have f6 : DataW.trod enc Tryz.prog w 0 (fun _ => true) true m 4 [c6] = some y6 := by have := hf 6 _ rfl; simpa [Tryz.cells4] using this
  have f7 : DataW.trod enc Tryz.prog w 0 (fun _ => true) true m 28 [c7] = some y7 := by have := hf 7 _ rfl; simpa [Tryz.cells28] using this
  have l7 : Light 28 y7.1 := fun k hk => hl k (by simp [DataW.weights, Tryz.underlying150, DataW.weightsEach, hk])
  clear hf h hl
  obtain ⟨nm, e0, -, hn⟩ := DataW.trod_string Tryz.underlying9 f0
  obtain ⟨of, e1, -, ho⟩ := DataW.trod_string Tryz.underlying9 f1
  obtain ⟨b2, e2, -⟩ := DataW.trod_bool Tryz.underlying4 f2
  obtain ⟨b3, e3, -⟩ := DataW.trod_bool Tryz.underlying4 f3
  obtain ⟨b4, e4, -⟩ := DataW.trod_bool Tryz.underlying4 f4
  obtain ⟨b5, e5, -⟩ := DataW.trod_bool Tryz.underlying4 f5
  obtain ⟨b6, e6, -⟩ := DataW.trod_bool Tryz.underlying4 f6
  obtain ⟨ns, na, nc, rfl, hS, hnc, hb⟩ := strs_open f7 l7
  simp only [List.cons.injEq, and_true] at e0 e1 e2 e3 e4 e5 e6
  subst e0 e1 e2 e3 e4 e5 e6
  exact ⟨⟨nm, of, b2, b3, b4, b5, b6, ns⟩, _, _, _, _, _, _, _, _, rfl, na, nc, rfl, hS, hnc, hn, ho, hb⟩

theorem type_open (fuel : Nat) (cs : List Value) (x : DataW H × List MemPlace) (h : DataW.trod enc Tryz.prog w 0 (fun _ => true) true fuel 85 cs = some x) (hl : Light 85 x.1) :
    cs.length = 3 ∧ ∃ (t : T) (c0 c1 c2 : Value), cs = [c0, c1, c2] ∧ TRep w (· < w.heap.size) t (.agg #[c0, c1, c2]) := by
  obtain ⟨xs, m, rfl, rfl, hlen, hxl, hf⟩ := DataW.trod_struct Tryz.underlying85 h
  rw [Tryz.cells85] at hlen
  refine ⟨hlen, ?_⟩
  have hxl' : xs.length = 3 := hxl
  clear hxl
  rcases cs with _ | ⟨c0, _ | ⟨c1, _ | ⟨c2, _ | ⟨c3, cs9⟩⟩⟩⟩ <;> simp at hlen
  rcases xs with _ | ⟨y0, _ | ⟨y1, _ | ⟨y2, _ | ⟨y3, ys9⟩⟩⟩⟩ <;> simp at hxl'
  have f0 : DataW.trod enc Tryz.prog w 0 (fun _ => true) true m 9 [c0] = some y0 := by have := hf 0 _ rfl; simpa [Tryz.cells9] using this
  have f1 : DataW.trod enc Tryz.prog w 0 (fun _ => true) true m 9 [c1] = some y1 := by have := hf 1 _ rfl; simpa [Tryz.cells9] using this
  have f2 : DataW.trod enc Tryz.prog w 0 (fun _ => true) true m 83 [c2] = some y2 := by have := hf 2 _ rfl; simpa [Tryz.cells83] using this
  have l2 : Light 83 y2.1 := fun k hk => hl k (by simp [DataW.weights, Tryz.underlying85, DataW.weightsEach, hk])
  clear hf h hl
  obtain ⟨nm, e0, -, hn⟩ := DataW.trod_string Tryz.underlying9 f0
  obtain ⟨ky, e1, -, ho⟩ := DataW.trod_string Tryz.underlying9 f1
  obtain ⟨fs, fa, fc, C, rfl, hfc, hb, hA, hr⟩ := rows_open F.zero (fun f cs => ∃ (c0 c1 c2 c3 c4 c5 c6 c7 : Value), cs = [c0, c1, c2, c3, c4, c5, c6, c7] ∧ FRep w (· < w.heap.size) f (.agg #[c0, c1, c2, c3, c4, c5, c6, c7])) 83 150 8 64 Tryz.underlying83 Tryz.cells150 Tryz.bytes150 (by omega) f2 l2 field_open
  simp only [List.cons.injEq, and_true] at e0 e1
  subst e0 e1
  refine ⟨⟨nm, ky, fs⟩, _, _, _, rfl, fa, fc, rfl, ⟨hb, C, hA, fun i hi => ?_⟩, hfc, hn, ho⟩
  obtain ⟨d0, d1, d2, d3, d4, d5, d6, d7, hd, hR⟩ := hr i hi
  simp only [List.range, List.range.loop, List.map_cons, List.map_nil, List.cons.injEq, and_true] at hd
  obtain ⟨rfl, rfl, rfl, rfl, rfl, rfl, rfl, rfl⟩ := hd
  exact hR

theorem part_open (fuel : Nat) (cs : List Value) (x : DataW H × List MemPlace) (h : DataW.trod enc Tryz.prog w 0 (fun _ => true) true fuel 24 cs = some x) (hl : Light 24 x.1) :
    ∃ (p : Pt) (c0 c1 : Value), cs = [c0, c1] ∧ PRep w (· < w.heap.size) p (.agg #[c0, c1]) := by
  obtain ⟨xs, m, rfl, rfl, hlen, hxl, hf⟩ := DataW.trod_struct Tryz.underlying24 h
  rw [Tryz.cells24] at hlen
  have hxl' : xs.length = 2 := hxl
  clear hxl
  rcases cs with _ | ⟨c0, _ | ⟨c1, _ | ⟨c2, cs9⟩⟩⟩ <;> simp at hlen
  rcases xs with _ | ⟨y0, _ | ⟨y1, _ | ⟨y2, ys9⟩⟩⟩ <;> simp at hxl'
  have f0 : DataW.trod enc Tryz.prog w 0 (fun _ => true) true m 9 [c0] = some y0 := by have := hf 0 _ rfl; simpa [Tryz.cells9] using this
  have f1 : DataW.trod enc Tryz.prog w 0 (fun _ => true) true m 22 [c1] = some y1 := by have := hf 1 _ rfl; simpa [Tryz.cells22] using this
  have l1 : Light 22 y1.1 := fun k hk => hl k (by simp [DataW.weights, Tryz.underlying24, DataW.weightsEach, hk])
  clear hf h hl
  obtain ⟨nm, e0, -, hn⟩ := DataW.trod_string Tryz.underlying9 f0
  obtain ⟨ts, ta, tc, C, rfl, htc, hb, hA, hr⟩ := rows_open T.zero (fun t cs => ∃ (c0 c1 c2 : Value), cs = [c0, c1, c2] ∧ TRep w (· < w.heap.size) t (.agg #[c0, c1, c2])) 22 85 3 56 Tryz.underlying22 Tryz.cells85 Tryz.bytes85 (by omega) f1 l1 type_open
  simp only [List.cons.injEq, and_true] at e0
  subst e0
  refine ⟨⟨nm, ts⟩, _, _, rfl, ta, tc, rfl, ⟨hb, C, hA, fun i hi => ?_⟩, htc, hn⟩
  obtain ⟨d0, d1, d2, hd, hR⟩ := hr i hi
  simp only [List.range, List.range.loop, List.map_cons, List.map_nil, List.cons.injEq, and_true] at hd
  obtain ⟨rfl, rfl, rfl⟩ := hd
  exact hR
end
end Go.Proofs.YtgcfgadkclfonaaGreatDoor

namespace Go.Proofs.YtgcfgadkclfonaaGreatDoor
set_option linter.unusedSimpArgs false
set_option linter.unusedVariables false
open Go.ChangeShapes Go.WideShapes Go.ChangeAt Go.RowKit

theorem Tryz.own : ownKnob Tryz.prog.godebug = none := by kernel_rfl
theorem Tryz.laidOut : laidOutB Tryz.prog = true := by kernel_rfl
theorem Tryz.gpow : Tryz.prog.globalNamed "internal/strconv.uint64pow10" = some 1 := by kernel_rfl
theorem Tryz.tpow : (Tryz.prog.globals[1]?).map (·.type) = some 194 := by kernel_rfl
theorem Tryz.cpow : Tryz.prog.cellsOf 194 = 20 := by kernel_rfl
theorem Tryz.cu64 : Tryz.prog.cellsOf 187 = 1 := by kernel_rfl

theorem door_met (os : Os) (args : Array Value) : laidMetH Tryz.prog Rows.fnExactAskCheckRow.laid ((World.doorLaid Tryz.prog 24 os).forCall (fun _ _ => 0) ⟨#[], args, []⟩).memory :=
  laidMetH_of_parts3 (fuel := 8) (laidMet_of_run' 8 (by kernel_rfl) (by kernel_rfl)) (by kernel_rfl) (by kernel_rfl)
theorem tab_of_laid {W : World} (h : laidMetH Tryz.prog Rows.fnExactAskCheckRow.laid W) : Tab W.heap.size W := by
  rw [MakeChecks.laidMetH_plain _ _ _ (by kernel_rfl)] at h
  have h1 : Lib.TabIs Tryz.prog W "internal/strconv.uint64pow10" .u64 Lib.pow10Tab := Lib.tabIs_of_head (rest := []) Tryz.gpow Tryz.tpow Tryz.underlying194 Tryz.underlying187 Tryz.cu64 Tryz.cpow (laidMet.tail (laidMet.tail h))
  exact Lib.tabBelow_of_tabIs h1
end Go.Proofs.YtgcfgadkclfonaaGreatDoor
