/-
  Steps that came in, read as data, are held by the cells of the world: the opening of an argument of the type []Step.
-/
import Derived.Test.YtahelconmfldjaaQStep
import Derived.ProofKit
import Derived.SizedLaws
import Derived.SliceStrings
import Derived.Deep.Slices
namespace Go.Proofs.Ytahelconmfldjaa
set_option linter.unusedSimpArgs false
set_option linter.unusedVariables false
open Go.RowKit Go.Deep Go.ChangeShapes

theorem Try.cells3 : Try.prog.cellsOf 3 = 1 := by kernel_rfl
theorem Try.cells4 : Try.prog.cellsOf 4 = 1 := by kernel_rfl
theorem Try.cells9 : Try.prog.cellsOf 9 = 1 := by kernel_rfl
theorem Try.cells38 : Try.prog.cellsOf 38 = 1 := by kernel_rfl
theorem Try.cells29 : Try.prog.cellsOf 29 = 1 := by kernel_rfl
theorem Try.cells80 : Try.prog.cellsOf 80 = 5 := by kernel_rfl
theorem Try.cells41 : Try.prog.cellsOf 41 = 6 := by kernel_rfl
theorem Try.cells39 : Try.prog.cellsOf 39 = 1 := by kernel_rfl
theorem Try.cells22 : Try.prog.cellsOf 22 = 1 := by kernel_rfl
theorem Try.bytes3 : Try.prog.bytesOf 3 = 8 := by kernel_rfl
theorem Try.bytes9 : Try.prog.bytesOf 9 = 16 := by kernel_rfl
theorem Try.bytes80 : Try.prog.bytesOf 80 = 72 := by kernel_rfl
theorem Try.bytes41 : Try.prog.bytesOf 41 = 120 := by kernel_rfl

theorem add_plain (b off k : Nat) : (⟨b, off, none⟩ : Addr).add k = ⟨b, off + k, none⟩ := by by_cases h : k = 0 <;> simp [Addr.add, h]

section
variable {H : Type} {enc : TypeId × Value → H} {w : World}

/-- A datum's parts, each within the reach. -/
def Light (t : TypeId) (d : DataW H) : Prop := ∀ n ∈ d.weights Try.prog t, n ≤ reachBytes

theorem light_all {e : TypeId} : ∀ {l : List (DataW H)} {d : DataW H}, d ∈ l → ∀ n ∈ d.weights Try.prog e, n ∈ DataW.weightsAll Try.prog e l
  | x :: r, d, hd, n, hn => by
    rw [DataW.weightsAll, List.mem_append]
    rcases List.mem_cons.1 hd with rfl | h
    · exact Or.inl hn
    · exact Or.inr (light_all h n hn)

theorem strs_open {fuel : Nat} {c : Value} {x : DataW H × List MemPlace} (h : DataW.trod enc Try.prog w 0 (fun _ => true) true fuel 38 [c] = some x) (hl : Light 38 x.1) :
    ∃ (ns : List ByteArray) (na : Option Addr) (nc : Nat), c = .slice na ns.length nc ∧ Strs w (· < w.heap.size) ns na ∧ ns.length ≤ nc ∧ 16 * ns.length ≤ 281474976710656 := by
  rcases open_strings Try.underlying38 Try.underlying9 Try.cells9 h with ⟨hc, hx⟩ | ⟨a, len, cap, ss, hc, -, hlc, hcm, hsl, rfl, hcell, hsz⟩
  · simp only [List.cons.injEq, and_true] at hc
    exact ⟨[], none, 0, hc, ⟨fun h => absurd rfl h, fun i => by simp [nth], by simp⟩, by simp, by simp⟩
  · simp only [List.cons.injEq, and_true] at hc
    simp only [if_true] at hsl
    have hlen : (ss.take len).length = len := by simp; omega
    refine ⟨ss.take len, some a, cap, by rw [hlen]; exact hc, ⟨fun hne => ?_, fun i => ?_, by rw [hlen]; omega⟩, by omega, ?_⟩
    · have h0 : 0 < len := by
        rcases Nat.eq_zero_or_pos len with h | h
        · subst h; simp at hne
        · exact h
      obtain ⟨b, off, spot⟩ := a
      have hs : spot = none := by simpa [Addr.add] using World.cell?_spot (hcell 0 (by omega))
      subst hs
      refine ⟨b, off, rfl, ?_, fun i hi => ?_⟩
      · have h1 := hcell 0 (by omega)
        have : w.cells? 0 ⟨b, off, none⟩ 1 = some [.string (ss.getD 0 ByteArray.empty)] := cells?_one (Nat.zero_le _) (by simpa [Addr.add] using h1)
        exact World.cells?_block this (by omega)
      · have := hcell i (by omega)
        rw [add_plain] at this
        rw [this]
        simp [nth, List.getD_eq_getElem?_getD, List.getElem?_take, show i < len by omega]
    · simp only [nth, List.getD_eq_getElem?_getD, List.getElem?_take]
      split
      · by_cases hi : i < ss.length
        · rw [List.getElem?_eq_getElem hi]; exact hsz _ (List.getElem_mem hi)
        · rw [List.getElem?_eq_none (by omega)]; simp
      · simp
    · have h1 := hl ((strs (H := H) (ss.take len)).length + (strs (H := H) (ss.drop len)).length |>.mul (Try.prog.bytesOf 9)) (by
        simp only [DataW.weights, Try.underlying38]; exact List.mem_cons_self ..)
      have h2 : ((strs (H := H) (ss.take len)).length + (strs (H := H) (ss.drop len)).length) * Try.prog.bytesOf 9 ≤ reachBytes := h1
      rw [Try.bytes9] at h2
      simp only [strs, List.length_map, List.length_take, List.length_drop, reachBytes] at h2
      omega

/-- A list of things of so many cells each, opened. -/
theorem rows_open {X : Type} (z : X) (R : X → List Value → Prop) (sl e : TypeId) (sz by' : Nat) (hu : Try.prog.underlying sl = some (.slice e)) (hc : Try.prog.cellsOf e = sz) (hby : Try.prog.bytesOf e = by') (hs0 : 0 < sz)
    {fuel : Nat} {c : Value} {x : DataW H × List MemPlace} (h : DataW.trod enc Try.prog w 0 (fun _ => true) true fuel sl [c] = some x) (hl : Light sl x.1)
    (ih : ∀ m cs y, m < fuel → DataW.trod enc Try.prog w 0 (fun _ => true) true m e cs = some y → Light e y.1 → cs.length = sz ∧ ∃ a, R a cs) :
    ∃ (xs : List X) (a : Option Addr) (cap : Nat) (C : Nat → Nat → Value), c = .slice a xs.length cap ∧ xs.length ≤ cap ∧ by' * xs.length ≤ 281474976710656 ∧ Arr w (· < w.heap.size) sz xs.length a C ∧ ∀ i, i < xs.length → R (xs.getD i z) ((List.range sz).map (C i)) := by
  rcases DataW.trod_slice hu h with ⟨hc0, -⟩ | ⟨a, len, cap, elems, rest, n', hfu, hc0, rfl, -, hlc, hcm, hle, hel, -, -⟩
  · simp only [List.cons.injEq, and_true] at hc0
    exact ⟨[], none, 0, fun _ _ => undef, hc0, by simp, by simp, fun h => by simp at h, fun i hi => by simp at hi⟩
  · simp only [List.cons.injEq, and_true] at hc0
    have hw : by' * len ≤ 281474976710656 := by
      have h1 := hl (((elems.map (·.1)).length + (rest.map (·.1)).length) * Try.prog.bytesOf e) (by simp only [DataW.weights, hu]; exact List.mem_cons_self ..)
      rw [hby] at h1
      simp only [List.length_map, reachBytes] at h1
      have h2 : len * by' ≤ (elems.length + rest.length) * by' := Nat.mul_le_mul_right _ (by omega)
      have h3 : by' * len = len * by' := Nat.mul_comm _ _
      omega
    have hk : ∀ i, ∃ r : X × (Nat → Value), i < len → (∀ j, j < sz → w.cell? ((a.add (i * sz)).add j) = some (r.2 j)) ∧ R r.1 ((List.range sz).map r.2) := by
      intro i
      by_cases hi : i < len
      · have hi' : i < elems.length := by omega
        have h1 := hel i hi
        rw [List.getElem?_eq_getElem hi', hc] at h1
        obtain ⟨cs', hcs, htr⟩ := Option.bind_eq_some_iff.1 h1
        obtain ⟨hlen, y, hR⟩ := ih n' cs' _ (by omega) htr (fun k hk => hl k (by
          simp only [DataW.weights, hu]
          refine List.mem_cons_of_mem _ (List.mem_append_left _ (light_all (d := elems[i].1) ?_ k hk))
          exact List.mem_map.2 ⟨elems[i], List.getElem_mem hi', rfl⟩))
        obtain ⟨-, -, hcc⟩ := World.cells?_some hcs
        have hcs2 : (List.range sz).map (fun j => cs'.getD j undef) = cs' := by
          apply List.ext_getElem
          · simp [hlen]
          · intro j h1 h2; simp [List.getD_eq_getElem?_getD, List.getElem?_eq_getElem h2]
        refine ⟨(y, fun j => cs'.getD j undef), fun _ => ⟨fun j hj => ?_, ?_⟩⟩
        · rw [hcc j hj]
          simp [List.getD_eq_getElem?_getD, List.getElem?_eq_getElem (show j < cs'.length by omega)]
        · show R y ((List.range sz).map (fun j => cs'.getD j undef))
          rw [hcs2]; exact hR
      · exact ⟨(z, fun _ => undef), fun h => absurd h hi⟩
    obtain ⟨f, hfk⟩ := Classical.skolem.1 hk
    have hkl : ((List.range len).map fun i => (f i).1).length = len := by simp
    refine ⟨(List.range len).map fun i => (f i).1, some a, cap, fun i => (f i).2, by rw [hkl]; exact hc0, by rw [hkl]; exact hlc, by rw [hkl]; exact hw, ?_, ?_⟩
    · intro h0
      rw [hkl] at h0 ⊢
      have h1 := (hfk 0 h0).1 0 hs0
      have h2 : w.cell? a = some ((f 0).2 0) := by simpa [Addr.add] using h1
      have hsp := World.cell?_spot h2
      obtain ⟨b, off, spot⟩ := a
      simp only at hsp
      subst hsp
      have : w.cells? 0 ⟨b, off, none⟩ 1 = some [(f 0).2 0] := cells?_one (Nat.zero_le _) h2
      refine ⟨b, off, rfl, World.cells?_block this (by omega), fun i hi j hj => ?_⟩
      have h3 := (hfk i hi).1 j hj
      rw [add_plain, add_plain] at h3
      exact h3
    · intro i hi
      rw [hkl] at hi
      have h1 := (hfk i hi).2
      simpa [List.getD_eq_getElem?_getD, List.getElem?_map, List.getElem?_range hi] using h1

theorem ints_open {fuel : Nat} {c : Value} {x : DataW H × List MemPlace} (h : DataW.trod enc Try.prog w 0 (fun _ => true) true fuel 29 [c] = some x) (hl : Light 29 x.1) :
    ∃ (ns : List Int) (na : Option Addr) (nc : Nat), c = .slice na ns.length nc ∧ Ints w (· < w.heap.size) ns na ∧ ns.length ≤ nc := by
  obtain ⟨ns, na, nc, C, rfl, hnc, hb, hA, hr⟩ := rows_open (0 : Int) (fun n cs => cs = [.int .i64 n]) 29 3 1 8 Try.underlying29 Try.cells3 Try.bytes3 (by omega) h hl (fun m cs y _ hy _ => by
    obtain ⟨n, rfl, -, -⟩ := DataW.trod_int Try.underlying3 hy
    exact ⟨rfl, n, rfl⟩)
  refine ⟨ns, na, nc, rfl, ⟨hb, fun h0 => ?_⟩, hnc⟩
  obtain ⟨b, off, e, hlt, hc⟩ := hA h0
  refine ⟨b, off, e, hlt, fun i hi => ?_⟩
  have h1 := hc i hi 0 (by omega)
  have h2 := hr i hi
  simp only [List.range, List.range.loop, List.map_cons, List.map_nil, List.cons.injEq, and_true] at h2
  rw [h2] at h1
  simpa [ith] using h1

theorem ints_openW {fuel : Nat} {c : Value} {x : DataW H × List MemPlace} (h : DataW.trod enc Try.prog w 0 (fun _ => true) true fuel 29 [c] = some x) (hl : Light 29 x.1) :
    ∃ (ns : List Int) (na : Option Addr) (nc : Nat), c = .slice na ns.length nc ∧ Ints w (· < w.heap.size) ns na ∧ ns.length ≤ nc ∧ (∀ i, (Lit.int .i64 (ith ns i)).wf = true) := by
  obtain ⟨ns, na, nc, C, rfl, hnc, hb, hA, hr⟩ := rows_open (0 : Int) (fun n cs => cs = [.int .i64 n] ∧ (Lit.int .i64 n).wf = true) 29 3 1 8 Try.underlying29 Try.cells3 Try.bytes3 (by omega) h hl (fun m cs y _ hy _ => by
    obtain ⟨n, rfl, -, hw⟩ := DataW.trod_int Try.underlying3 hy
    exact ⟨rfl, n, rfl, hw⟩)
  refine ⟨ns, na, nc, rfl, ⟨hb, fun h0 => ?_⟩, hnc, fun i => ?_⟩
  rotate_left
  · by_cases hi : i < ns.length
    · exact (hr i hi).2
    · simp [ith, List.getD_eq_getElem?_getD, List.getElem?_eq_none (Nat.le_of_not_lt hi)]; rfl
  obtain ⟨b, off, e, hlt, hc⟩ := hA h0
  refine ⟨b, off, e, hlt, fun i hi => ?_⟩
  have h1 := hc i hi 0 (by omega)
  have h2 := (hr i hi).1
  simp only [List.range, List.range.loop, List.map_cons, List.map_nil, List.cons.injEq, and_true] at h2
  rw [h2] at h1
  simpa [ith] using h1

theorem sel_open (fuel : Nat) : ∀ (cs : List Value) (x : DataW H × List MemPlace), DataW.trod enc Try.prog w 0 (fun _ => true) true fuel 80 cs = some x → Light 80 x.1 →
    cs.length = 5 ∧ ∃ (y : Se) (c0 c1 c2 c3 c4 : Value), cs = [c0, c1, c2, c3, c4] ∧ SeRep w (· < w.heap.size) y (.agg #[c0, c1, c2, c3, c4]) := by
  induction fuel using Nat.strongRecOn with
  | ind fuel ih =>
    intro cs x h hl
    obtain ⟨xs, m, rfl, rfl, hlen, hxl, hf⟩ := DataW.trod_struct Try.underlying80 h
    rw [Try.cells80] at hlen
    refine ⟨hlen, ?_⟩
    have hxl' : xs.length = 5 := hxl
    clear hxl
    rcases cs with _ | ⟨c0, _ | ⟨c1, _ | ⟨c2, _ | ⟨c3, _ | ⟨c4, _ | ⟨c5, cs9⟩⟩⟩⟩⟩⟩ <;> simp at hlen
    rcases xs with _ | ⟨y0, _ | ⟨y1, _ | ⟨y2, _ | ⟨y3, _ | ⟨y4, _ | ⟨y5, ys9⟩⟩⟩⟩⟩⟩ <;> simp at hxl'
    have f0 : DataW.trod enc Try.prog w 0 (fun _ => true) true m 9 [c0] = some y0 := by have := hf 0 _ rfl; simpa [Try.cells9] using this
    have f1 : DataW.trod enc Try.prog w 0 (fun _ => true) true m 9 [c1] = some y1 := by have := hf 1 _ rfl; simpa [Try.cells9] using this
    have f2 : DataW.trod enc Try.prog w 0 (fun _ => true) true m 4 [c2] = some y2 := by have := hf 2 _ rfl; simpa [Try.cells4] using this
    have f3 : DataW.trod enc Try.prog w 0 (fun _ => true) true m 3 [c3] = some y3 := by have := hf 3 _ rfl; simpa [Try.cells3] using this
    have f4 : DataW.trod enc Try.prog w 0 (fun _ => true) true m 39 [c4] = some y4 := by have := hf 4 _ rfl; simpa [Try.cells39] using this
    have l4 : Light 39 y4.1 := fun k hk => hl k (by simp [DataW.weights, Try.underlying80, DataW.weightsEach, hk])
    clear hf h hl
    obtain ⟨s, e0, -, hs⟩ := DataW.trod_string Try.underlying9 f0
    obtain ⟨n, e1, -, hn⟩ := DataW.trod_string Try.underlying9 f1
    obtain ⟨o, e2, -⟩ := DataW.trod_bool Try.underlying4 f2
    obtain ⟨id, e3, -, -⟩ := DataW.trod_int Try.underlying3 f3
    obtain ⟨ks, ka, kc, C, rfl, hkc, hb, hA, hr⟩ := rows_open Se.zero (fun f cs => ∃ (c0 c1 c2 c3 c4 : Value), cs = [c0, c1, c2, c3, c4] ∧ SeRep w (· < w.heap.size) f (.agg #[c0, c1, c2, c3, c4])) 39 80 5 72 Try.underlying39 Try.cells80 Try.bytes80 (by omega) f4 l4 (fun m' cs y hm => ih m' (by omega) cs y)
    simp only [List.cons.injEq, and_true] at e0 e1 e2 e3
    subst e0 e1 e2 e3
    refine ⟨⟨s, n, o, id, ks⟩, _, _, _, _, _, rfl, SeRep.of_kids hs hn ⟨hb, C, hA, fun i hi => ?_⟩⟩
    obtain ⟨d0, d1, d2, d3, d4, hd, hR⟩ := hr i hi
    simp only [List.range, List.range.loop, List.map_cons, List.map_nil, List.cons.injEq, and_true] at hd
    obtain ⟨rfl, rfl, rfl, rfl, rfl⟩ := hd
    exact hR

theorem sels_open {fuel : Nat} {c : Value} {x : DataW H × List MemPlace} (h : DataW.trod enc Try.prog w 0 (fun _ => true) true fuel 39 [c] = some x) (hl : Light 39 x.1) :
    ∃ (ks : List Se) (ka : Option Addr) (kc : Nat), c = .slice ka ks.length kc ∧ SeReps w (· < w.heap.size) ks ka := by
  obtain ⟨ks, ka, kc, C, rfl, hkc, hb, hA, hr⟩ := rows_open Se.zero (fun f cs => ∃ (c0 c1 c2 c3 c4 : Value), cs = [c0, c1, c2, c3, c4] ∧ SeRep w (· < w.heap.size) f (.agg #[c0, c1, c2, c3, c4])) 39 80 5 72 Try.underlying39 Try.cells80 Try.bytes80 (by omega) h hl (fun m' cs y _ => sel_open m' cs y)
  refine ⟨ks, ka, kc, rfl, hb, C, hA, fun i hi => ?_⟩
  obtain ⟨d0, d1, d2, d3, d4, hd, hR⟩ := hr i hi
  simp only [List.range, List.range.loop, List.map_cons, List.map_nil, List.cons.injEq, and_true] at hd
  obtain ⟨rfl, rfl, rfl, rfl, rfl⟩ := hd
  exact hR

theorem step_open (fuel : Nat) (cs : List Value) (x : DataW H × List MemPlace) (h : DataW.trod enc Try.prog w 0 (fun _ => true) true fuel 41 cs = some x) (hl : Light 41 x.1) :
    cs.length = 6 ∧ ∃ (s : St) (c0 c1 c2 c3 c4 c5 : Value), cs = [c0, c1, c2, c3, c4, c5] ∧ StRep w (· < w.heap.size) s (.agg #[c0, c1, c2, c3, c4, c5]) ∧ ∀ q, (Lit.int .i64 (ith s.after q)).wf = true := by
  obtain ⟨xs, m, rfl, rfl, hlen, hxl, hf⟩ := DataW.trod_struct Try.underlying41 h
  rw [Try.cells41] at hlen
  refine ⟨hlen, ?_⟩
  have hxl' : xs.length = 6 := hxl
  clear hxl
  rcases cs with _ | ⟨c0, _ | ⟨c1, _ | ⟨c2, _ | ⟨c3, _ | ⟨c4, _ | ⟨c5, _ | ⟨c6, cs9⟩⟩⟩⟩⟩⟩⟩ <;> simp at hlen
  rcases xs with _ | ⟨y0, _ | ⟨y1, _ | ⟨y2, _ | ⟨y3, _ | ⟨y4, _ | ⟨y5, _ | ⟨y6, ys9⟩⟩⟩⟩⟩⟩⟩ <;> simp at hxl'
  have f0 : DataW.trod enc Try.prog w 0 (fun _ => true) true m 3 [c0] = some y0 := by have := hf 0 _ rfl; simpa [Try.cells3] using this
  have f1 : DataW.trod enc Try.prog w 0 (fun _ => true) true m 38 [c1] = some y1 := by have := hf 1 _ rfl; simpa [Try.cells38] using this
  have f2 : DataW.trod enc Try.prog w 0 (fun _ => true) true m 9 [c2] = some y2 := by have := hf 2 _ rfl; simpa [Try.cells9] using this
  have f3 : DataW.trod enc Try.prog w 0 (fun _ => true) true m 39 [c3] = some y3 := by have := hf 3 _ rfl; simpa [Try.cells39] using this
  have f4 : DataW.trod enc Try.prog w 0 (fun _ => true) true m 29 [c4] = some y4 := by have := hf 4 _ rfl; simpa [Try.cells29] using this
  have f5 : DataW.trod enc Try.prog w 0 (fun _ => true) true m 38 [c5] = some y5 := by have := hf 5 _ rfl; simpa [Try.cells38] using this
  have l1 : Light 38 y1.1 := fun k hk => hl k (by simp [DataW.weights, Try.underlying41, DataW.weightsEach, hk])
  have l3 : Light 39 y3.1 := fun k hk => hl k (by simp [DataW.weights, Try.underlying41, DataW.weightsEach, hk])
  have l4 : Light 29 y4.1 := fun k hk => hl k (by simp [DataW.weights, Try.underlying41, DataW.weightsEach, hk])
  have l5 : Light 38 y5.1 := fun k hk => hl k (by simp [DataW.weights, Try.underlying41, DataW.weightsEach, hk])
  clear hf h hl
  obtain ⟨pt, e0, -, -⟩ := DataW.trod_int Try.underlying3 f0
  obtain ⟨way, wa, wc, rfl, hway, hwc, hwb⟩ := strs_open f1 l1
  obtain ⟨ty, e2, -, hty⟩ := DataW.trod_string Try.underlying9 f2
  obtain ⟨sels, sa, sc, rfl, hsel⟩ := sels_open f3 l3
  obtain ⟨after, aa, ac, rfl, haf, hac, hwa⟩ := ints_openW f4 l4
  obtain ⟨br, ba, bc, rfl, hbr, hbc, hbb⟩ := strs_open f5 l5
  simp only [List.cons.injEq, and_true] at e0 e2
  subst e0 e2
  exact ⟨⟨pt, way, ty, sels, after, br⟩, _, _, _, _, _, _, rfl, ⟨wa, sa, aa, ba, wc, sc, ac, bc, rfl, hway, hwb, hty, hsel, haf, hac, hbr, hbb⟩, hwa⟩

theorem stepS_open {fuel : Nat} {c : Value} {x : DataW H × List MemPlace} (h : DataW.trod enc Try.prog w 0 (fun _ => true) true fuel 22 [c] = some x) (hl : Light 22 x.1) :
    ∃ (ss : List St) (sa : Option Addr) (sc : Nat), c = .slice sa ss.length sc ∧ StReps w (· < w.heap.size) ss sa ∧ ss.length ≤ sc ∧ ∀ i q, (Lit.int .i64 (ith (pth ss i).after q)).wf = true := by
  obtain ⟨ss, sa, sc, C, rfl, hsc, hb, hA, hr⟩ := rows_open St.zero (fun t cs => ∃ (c0 c1 c2 c3 c4 c5 : Value), cs = [c0, c1, c2, c3, c4, c5] ∧ StRep w (· < w.heap.size) t (.agg #[c0, c1, c2, c3, c4, c5]) ∧ ∀ q, (Lit.int .i64 (ith t.after q)).wf = true) 22 41 6 120 Try.underlying22 Try.cells41 Try.bytes41 (by omega) h hl (fun m' cs y _ => step_open m' cs y)
  refine ⟨ss, sa, sc, rfl, ⟨hb, C, hA, fun i hi => ?_⟩, hsc, fun i q => ?_⟩
  rotate_left
  · by_cases hi : i < ss.length
    · obtain ⟨_, _, _, _, _, _, _, _, hw⟩ := hr i hi
      exact hw q
    · simp [pth, List.getD_eq_getElem?_getD, List.getElem?_eq_none (Nat.le_of_not_lt hi), St.zero, ith]; rfl
  obtain ⟨d0, d1, d2, d3, d4, d5, hd, hR, -⟩ := hr i hi
  simp only [List.range, List.range.loop, List.map_cons, List.map_nil, List.cons.injEq, and_true] at hd
  obtain ⟨rfl, rfl, rfl, rfl, rfl, rfl⟩ := hd
  exact hR
end
end Go.Proofs.Ytahelconmfldjaa
