import Derived.Test.YtmemijccbmnaaaaGreatJ12
import Derived.Test.YtmemijccbmnaaaaGreatJ13
import Derived.Test.YtmemijccbmnaaaaGreatJ9
import Derived.Deep.AppendLies
import Derived.Laws.AppendOwnNone
import Derived.Deep.RegionLaw
import Derived.Deep.RegionHeld3
import Derived.Test.YtmemijccbmnaaaaGreatIFind
namespace Go.Proofs.YtmemijccbmnaaaaGreat
set_option linter.unusedSimpArgs false
set_option linter.unusedVariables false
open Go.RowKit

/-- A cell whose value lies at its way; labelled within, if L. -/
def VE (L : Bool) (lab : Nat → List Nat) (p : List Nat) (X : Nat → Ce) (w : World) (i : Nat) (c : Nat → Value) : Prop :=
  (L = true → LRep w lab ((i + 2) :: p) (X i).val (.agg #[c 1, c 2, c 3, c 4, c 5])) ∧ SCe (fun b => ((i + 2) :: p) <:+ lab b) X w i c
theorem VE.keep {L : Bool} {lab lab' : Nat → List Nat} {p : List Nat} {X : Nat → Ce} {w w' : World} {i : Nat} {c : Nat → Value} (h : VE L lab p X w i c) (e : ∀ b, lab b ≠ [] → ((i + 2) :: p) <:+ lab b → lab' b = lab b ∧ w'.heap[b]? = w.heap[b]?) : VE L lab' p X w' i c :=
  ⟨fun hL => ((h.1 hL).keep fun b h1 h2 => (e b h1 h2).2).labels fun b h1 h2 => (e b h1 h2).1, h.2.1, (h.2.2.1.mono fun b hb => (e b (suffix_ne hb) hb).2).sub fun b hb => by rw [(e b (suffix_ne hb) hb).1]; exact hb, h.2.2.2⟩
/-- Cells in memory of their own. -/
def VCells (L : Bool) (w : World) (lab : Nat → List Nat) (p : List Nat) (cs : List Ce) (a : Option Addr) : Prop :=
  0 < cs.length → ∃ b off, a = some ⟨b, off, none⟩ ∧ lab b = 1 :: p ∧ (∀ i, w.frozen? ⟨b, i, none⟩ = false) ∧ GRow w 6 cs.length b off (VE L lab p (cth cs))
theorem VCells.keep {L : Bool} {w w' : World} {lab lab' : Nat → List Nat} {p : List Nat} {cs : List Ce} {a : Option Addr} (h : VCells L w lab p cs a) (hl : ∀ b, lab b ≠ [] → p <:+ lab b → lab' b = lab b ∧ w'.heap[b]? = w.heap[b]?) : VCells L w' lab' p cs a := fun hn => by
  obtain ⟨b, off, h1, h2, h3, C, h4, h5⟩ := h hn
  obtain ⟨hb1, hb⟩ := hl b (by rw [h2]; simp) (by rw [h2]; exact List.suffix_cons _ _)
  exact ⟨b, off, h1, hb1.trans h2, fun i => (World.frozen?_of_block (w := w) (a := ⟨b, i, none⟩) hb).trans (h3 i), C, fun i hi j hj => (World.cell?_of_block (w := w) (a := ⟨b, off + i * 6 + j, none⟩) hb).trans (h4 i hi j hj), fun i hi => (h5 i hi).keep fun b' k1 k2 => hl b' k1 (suffix_cons k2)⟩
/-- Cells that a call gathers at a way, each value copied. -/
structure OwnCL (L : Bool) (w : World) (lo ob : Nat) (lab : Nat → List Nat) (p : List Nat) (cs : List Ce) (v : Value) (xs : List Value) : Prop where
  own : w.ownsRow lo 109 6 v cs.length xs
  apart : v.ownBlock ≠ some ob
  way : ∀ b, lab b ≠ [] → lo ≤ b ∧ b < w.heap.size ∧ b ≠ ob ∧ v.ownBlock ≠ some b
  cell : ∀ i, i < cs.length → VE L lab p (cth cs) w i (fun m => xs.getD (i * 6 + m) undef)
theorem OwnCL.nil (L : Bool) (w : World) (lo ob : Nat) (p : List Nat) : OwnCL L w lo ob (fun _ => []) p [] (.slice none 0 0) [] := ⟨World.ownsRow_nil _ _ _ _, by simp [Value.ownBlock], fun b h => absurd rfl h, fun i hi => by simp at hi⟩
theorem VE.keep2 {L : Bool} {lab lab' : Nat → List Nat} {p : List Nat} {X X' : Nat → Ce} {w w' : World} {i : Nat} {c c' : Nat → Value} (h : VE L lab p X w i c) (hX : X' i = X i) (hc : ∀ m, m < 6 → c' m = c m) (e : ∀ b, lab b ≠ [] → ((i + 2) :: p) <:+ lab b → lab' b = lab b ∧ w'.heap[b]? = w.heap[b]?) : VE L lab' p X' w' i c' := by
  have h' := h.keep e
  unfold VE SCe at h' ⊢
  rw [hX, hc 0 (by omega), hc 1 (by omega), hc 2 (by omega), hc 3 (by omega), hc 4 (by omega), hc 5 (by omega)]
  exact h'
theorem OwnCL.step {L : Bool} {wr w1 w3 : World} {lo ob : Nat} {lab : Nat → List Nat} {p : List Nat} {cs : List Ce} {v : Value} {xs : List Value} (h : OwnCL L wr lo ob lab p cs v xs) (hlo : lo ≤ wr.heap.size) (hob : ob < wr.heap.size) (hb1 : Below wr.heap.size wr w1) {lab1 : Nat → List Nat} (hl1 : ∀ b, lab1 b ≠ [] → wr.heap.size ≤ b ∧ b < w1.heap.size)
    {c : Ce} {d1 d2 d3 d4 d5 : Value} (hL : L = true → LRep w1 lab1 [] c.val (.agg #[d1, d2, d3, d4, d5])) (hR : Rep w1 (fun b => wr.heap.size ≤ b ∧ b < w1.heap.size) c.val (.agg #[d1, d2, d3, d4, d5])) (hn : c.name.size ≤ maxLen) {o : Obj} {g cap : Nat}
    (hown : w3.ownsRow lo 109 6 (.slice (some ⟨g, 0, none⟩) (cs.length + 1) cap) (cs.length + 1) (xs ++ [.string c.name, d1, d2, d3, d4, d5])) (hgrow : (w1.alloc o).grownBy w3 v.ownBlock) (hat : v.ownBlock = some g ∨ g = w1.heap.size + 1) :
    ∃ lab', OwnCL L w3 lo ob lab' p (cs ++ [c]) (.slice (some ⟨g, 0, none⟩) (cs.length + 1) cap) (xs ++ [.string c.name, d1, d2, d3, d4, d5]) := by
  have z1 := hb1.size
  have z3 := hgrow.size
  simp at z3
  have hgl : ∀ b, v.ownBlock = some b → b < wr.heap.size := fun b hb => (h.own.lt b hb).2
  have hsame : ∀ b, b < w1.heap.size → v.ownBlock ≠ some b → w3.heap[b]? = w1.heap[b]? := fun b hb hne => by
    rw [hgrow.block b (by simp; omega) (fun e => hne e.symm)]
    exact (below_box w1 o).block b hb
  have hxl := h.own.1
  obtain ⟨lab', hlab'⟩ : ∃ lab' : Nat → List Nat, lab' = fun b => if wr.heap.size ≤ b ∧ b < w1.heap.size then lab1 b ++ ((cs.length + 2) :: p) else lab b := ⟨_, rfl⟩
  have hin : ∀ b, wr.heap.size ≤ b ∧ b < w1.heap.size → lab' b = lab1 b ++ ((cs.length + 2) :: p) := fun b hb => by rw [hlab']; exact if_pos hb
  have hout : ∀ b, ¬ (wr.heap.size ≤ b ∧ b < w1.heap.size) → lab' b = lab b := fun b hb => by rw [hlab']; exact if_neg hb
  have hg' : ∀ b, (Value.slice (some ⟨g, 0, none⟩) (cs.length + 1) cap).ownBlock = some b → g = b := fun b e => by simpa [Value.ownBlock] using e
  refine ⟨lab', by simpa using hown, fun e => ?_, fun b hb => ?_, fun i hi => ?_⟩
  · have e' := hg' _ e
    rcases hat with h1 | h1
    · exact h.apart (by rw [h1, e'])
    · omega
  · by_cases e : wr.heap.size ≤ b ∧ b < w1.heap.size
    · refine ⟨by omega, by omega, by omega, fun e2 => ?_⟩
      have e' := hg' _ e2
      rcases hat with h1 | h1
      · have := hgl g h1; omega
      · omega
    · rw [hout b e] at hb
      obtain ⟨a1, a2, a3, a4⟩ := h.way b hb
      refine ⟨a1, by omega, a3, fun e2 => ?_⟩
      have e' := hg' _ e2
      rcases hat with h1 | h1
      · exact a4 (by rw [h1, e'])
      · omega
  · simp only [List.length_append, List.length_singleton] at hi
    by_cases e : i = cs.length
    · have hg : ∀ j, (xs ++ [Value.string c.name, d1, d2, d3, d4, d5]).getD (i * 6 + j) undef = [Value.string c.name, d1, d2, d3, d4, d5].getD j undef := fun j => by
        rw [List.getD_eq_getElem?_getD, List.getElem?_append_right (by omega), List.getD_eq_getElem?_getD, hxl, e, show cs.length * 6 + j - cs.length * 6 = j by omega]
      have hc : cth (cs ++ [c]) i = c := by simp [cth, List.getD_eq_getElem?_getD, e]
      unfold VE SCe
      rw [hc]
      simp only [hg]
      rw [e]
      refine ⟨fun hLt => ?_, rfl, ?_, hn⟩
      · have := ((hL hLt).relabel (lab' := lab') (q := (cs.length + 2) :: p) fun b hb => hin b (hl1 b hb)).keep (w' := w3) fun b _ hs => hsame b ?_ ?_
        · exact this
        · rcases Classical.em (wr.heap.size ≤ b ∧ b < w1.heap.size) with h1 | h1
          · exact h1.2
          · rename_i hne
            rw [hout b h1] at hne
            have := (h.way b hne).2.1
            omega
        · intro e2
          rcases Classical.em (wr.heap.size ≤ b ∧ b < w1.heap.size) with h1 | h1
          · have := hgl b e2; omega
          · rename_i hne
            rw [hout b h1] at hne
            exact (h.way b hne).2.2.2 e2
      · refine (hR.mono fun b hb => hsame b hb.2 fun e => ?_).sub fun b hb => ?_
        · have := hgl b e; omega
        · rw [hin b hb]; exact List.suffix_append _ _
    · have hik : i < cs.length := by omega
      refine (h.cell i hik).keep2 (by simp [cth, List.getD_eq_getElem?_getD, List.getElem?_append_left hik]) (fun m hm => ?_) (fun b h1 _ => ⟨hout b (by have := (h.way b h1).2.1; omega), (hsame b (by have := (h.way b h1).2.1; omega) (h.way b h1).2.2.2).trans (hb1.block b (h.way b h1).2.1)⟩)
      show (xs ++ _).getD (i * 6 + m) undef = xs.getD (i * 6 + m) undef
      rw [List.getD_eq_getElem?_getD, List.getElem?_append_left (by omega), List.getD_eq_getElem?_getD]
theorem OwnCL.set {L : Bool} {w : World} {lo ob : Nat} {lab : Nat → List Nat} {p : List Nat} {cs : List Ce} {v : Value} {xs : List Value} (h : OwnCL L w lo ob lab p cs v xs) (o : Nat) (u : Value) : OwnCL L (w.setCell ⟨ob, o, none⟩ u) lo ob lab p cs v xs :=
  ⟨owns_same h.own fun b hb => Below.heap_setCell _ _ _ _ (fun e => h.apart (by rw [hb]; exact congrArg some e)), h.apart, fun b hb => by rw [size_set]; exact h.way b hb, fun i hi => (h.cell i hi).keep fun b h1 _ => ⟨rfl, Below.heap_setCell _ _ _ _ (fun e => (h.way b h1).2.2.1 e)⟩⟩
theorem OwnCL.keep {L : Bool} {w w' : World} {lo ob : Nat} {lab : Nat → List Nat} {p : List Nat} {cs : List Ce} {v : Value} {xs : List Value} (h : OwnCL L w lo ob lab p cs v xs) (hb : Below w.heap.size w w') : OwnCL L w' lo ob lab p cs v xs :=
  ⟨owns_same h.own fun b hb' => hb.block b (h.own.lt b hb').2, h.apart, fun b hb' => ⟨(h.way b hb').1, Nat.lt_of_lt_of_le (h.way b hb').2.1 hb.size, (h.way b hb').2.2⟩, fun i hi => (h.cell i hi).keep fun b h1 _ => ⟨rfl, hb.block b (h.way b h1).2.1⟩⟩
theorem OwnCL.done {L : Bool} {w : World} {lo ob : Nat} {lab : Nat → List Nat} {p : List Nat} {cs : List Ce} {v : Value} {xs : List Value} (h : OwnCL L w lo ob lab p cs v xs) :
    ∃ (a : Option Addr) (c : Nat) (lab' : Nat → List Nat), v = .slice a cs.length c ∧ cs.length ≤ c ∧ (∀ b, lab' b ≠ [] → lo ≤ b ∧ b < w.heap.size ∧ b ≠ ob) ∧ VCells L w lab' p cs a := by
  obtain ⟨h1, h2, h3, h4⟩ := h
  have h1' := h1
  rcases h1.2 with ⟨rfl, h0⟩ | ⟨g, cap, cur, rfl, hlo, hg, hn, _⟩
  · exact ⟨none, 0, fun _ => [], by rw [h0], by omega, fun b hb => absurd rfl hb, fun h => by omega⟩
  · have hlt : g < w.heap.size := (Array.getElem?_eq_some_iff.1 hg).1
    have hgo : g ≠ ob := fun e => h2 (by rw [e]; rfl)
    refine ⟨_, cap, fun b => if b = g then 1 :: p else lab b, rfl, hn, fun b hb => ?_, fun _ => ⟨g, 0, rfl, if_pos rfl, fun i => h1'.frozenAt i, fun i j => xs.getD (i * 6 + j) undef, fun i hi j hj => ?_, fun i hi => ?_⟩⟩
    · by_cases e : b = g
      · rw [e]; exact ⟨hlo, hlt, hgo⟩
      · simp only [if_neg e] at hb
        exact ⟨(h3 b hb).1, (h3 b hb).2.1, (h3 b hb).2.2.1⟩
    · have hx := h1.1
      have := h1.cellAt (i * 6 + j) (by omega)
      show _ = some (xs.getD (i * 6 + j) undef)
      rw [Nat.zero_add, this, List.getD_eq_getElem?_getD, List.getElem?_eq_getElem (by omega)]
      rfl
    · exact (h4 i hi).keep fun b hb _ => ⟨if_neg (fun e : b = g => (h3 b hb).2.2.2 (by rw [e]; rfl)), rfl⟩
/-- Rows that a call gathers, each copied whole. -/
structure OwnRL (L : Bool) (w : World) (lo : Nat) (lab : Nat → List Nat) (rl : List Ro) (v : Value) (xs : List Value) : Prop where
  own : w.ownsRow lo 69 3 v rl.length xs
  way : ∀ b, lab b ≠ [] → lo ≤ b ∧ b < w.heap.size ∧ v.ownBlock ≠ some b
  row : ∀ k, k < rl.length → ∃ ca cc, xs.getD (k * 3) undef = .string (rth rl k).type ∧ xs.getD (k * 3 + 1) undef = .int .i64 (rth rl k).id ∧ xs.getD (k * 3 + 2) undef = .slice ca (rth rl k).cells.length cc ∧ (rth rl k).cells.length ≤ cc ∧ VCells L w lab [k + 2] (rth rl k).cells ca
theorem OwnRL.nil (L : Bool) (w : World) (lo : Nat) : OwnRL L w lo (fun _ => []) [] (.slice none 0 0) [] := ⟨World.ownsRow_nil _ _ _ _, fun b h => absurd rfl h, fun i hi => by simp at hi⟩
theorem OwnRL.keep {L : Bool} {w w' : World} {lo : Nat} {lab : Nat → List Nat} {rl : List Ro} {v : Value} {xs : List Value} (h : OwnRL L w lo lab rl v xs) (hb : Below w.heap.size w w') : OwnRL L w' lo lab rl v xs :=
  ⟨owns_same h.own fun b hb' => hb.block b (h.own.lt b hb').2, fun b hb' => ⟨(h.way b hb').1, Nat.lt_of_lt_of_le (h.way b hb').2.1 hb.size, (h.way b hb').2.2⟩, fun k hk => by
    obtain ⟨ca, cc, h1, h2, h3, h4, h5⟩ := h.row k hk
    exact ⟨ca, cc, h1, h2, h3, h4, h5.keep (fun b hb' _ => ⟨rfl, hb.block b (h.way b hb').2.1⟩)⟩⟩
theorem OwnRL.put {L : Bool} {wr w1 w3 : World} {lo : Nat} {lab : Nat → List Nat} {rl : List Ro} {v : Value} {xs : List Value} (h : OwnRL L wr lo lab rl v xs) (hlo : lo ≤ wr.heap.size) (hb1 : Below wr.heap.size wr w1) {lab1 : Nat → List Nat} (hl1 : ∀ b, lab1 b ≠ [] → wr.heap.size ≤ b ∧ b < w1.heap.size)
    {r : Ro} {ca : Option Addr} {cc : Nat} (hc : r.cells.length ≤ cc) (hM : VCells L w1 lab1 [rl.length + 2] r.cells ca) {o : Obj} {g cap : Nat}
    (hown : w3.ownsRow lo 69 3 (.slice (some ⟨g, 0, none⟩) (rl.length + 1) cap) (rl.length + 1) (xs ++ [.string r.type, .int .i64 r.id, .slice ca r.cells.length cc])) (hgrow : (w1.alloc o).grownBy w3 v.ownBlock) (hat : v.ownBlock = some g ∨ g = w1.heap.size + 1) :
    ∃ lab', OwnRL L w3 lo lab' (rl ++ [r]) (.slice (some ⟨g, 0, none⟩) (rl.length + 1) cap) (xs ++ [.string r.type, .int .i64 r.id, .slice ca r.cells.length cc]) := by
  have z1 := hb1.size
  have z3 := hgrow.size
  simp at z3
  have hgl : ∀ b, v.ownBlock = some b → b < wr.heap.size := fun b hb => (h.own.lt b hb).2
  have hsame : ∀ b, b < w1.heap.size → v.ownBlock ≠ some b → w3.heap[b]? = w1.heap[b]? := fun b hb hne => by
    rw [hgrow.block b (by simp; omega) (fun e => hne e.symm)]
    exact (below_box w1 o).block b hb
  have hxl := h.own.1
  have hg' : ∀ b, (Value.slice (some ⟨g, 0, none⟩) (rl.length + 1) cap).ownBlock = some b → g = b := fun b e => by simpa [Value.ownBlock] using e
  refine ⟨fun b => if wr.heap.size ≤ b ∧ b < w1.heap.size then lab1 b else lab b, by simpa using hown, fun b hb => ?_, fun k hk => ?_⟩
  · by_cases e : wr.heap.size ≤ b ∧ b < w1.heap.size
    · refine ⟨by omega, by omega, fun e2 => ?_⟩
      have e' := hg' _ e2
      rcases hat with h1 | h1
      · have := hgl g h1; omega
      · omega
    · simp only [if_neg e] at hb
      obtain ⟨a1, a2, a3⟩ := h.way b hb
      refine ⟨a1, by omega, fun e2 => ?_⟩
      have e' := hg' _ e2
      rcases hat with h1 | h1
      · exact a3 (by rw [h1, e'])
      · omega
  · simp only [List.length_append, List.length_singleton] at hk
    by_cases e : k = rl.length
    · have hg : ∀ j, (xs ++ [Value.string r.type, .int .i64 r.id, .slice ca r.cells.length cc]).getD (k * 3 + j) undef = [Value.string r.type, .int .i64 r.id, .slice ca r.cells.length cc].getD j undef := fun j => by
        rw [List.getD_eq_getElem?_getD, List.getElem?_append_right (by omega), List.getD_eq_getElem?_getD, hxl, e, show rl.length * 3 + j - rl.length * 3 = j by omega]
      have hr : rth (rl ++ [r]) k = r := by simp [rth, List.getD_eq_getElem?_getD, e]
      rw [hr]
      refine ⟨ca, cc, hg 0, hg 1, hg 2, hc, ?_⟩
      rw [e]
      exact hM.keep (fun b hb _ => ⟨if_pos (hl1 b hb), hsame b (hl1 b hb).2 (fun e => by have := hgl b e; have := hl1 b hb; omega)⟩)
    · have hik : k < rl.length := by omega
      have hg : ∀ j, j < 3 → (xs ++ [Value.string r.type, .int .i64 r.id, .slice ca r.cells.length cc]).getD (k * 3 + j) undef = xs.getD (k * 3 + j) undef := fun j hj => by
        rw [List.getD_eq_getElem?_getD, List.getElem?_append_left (by omega), List.getD_eq_getElem?_getD]
      have hr : rth (rl ++ [r]) k = rth rl k := by simp [rth, List.getD_eq_getElem?_getD, List.getElem?_append_left hik]
      obtain ⟨ca', cc', h1, h2, h3, h4, h5⟩ := h.row k hik
      rw [hr]
      refine ⟨ca', cc', (hg 0 (by omega)).trans h1, (hg 1 (by omega)).trans h2, (hg 2 (by omega)).trans h3, h4, h5.keep (fun b hb _ => ⟨if_neg (by have := (h.way b hb).2.1; omega), (hsame b (by have := (h.way b hb).2.1; omega) (h.way b hb).2.2).trans (hb1.block b (h.way b hb).2.1)⟩)⟩
/-- Rows in memory of their own: where each lies. -/
structure RM (L : Bool) (lo : Nat) (w : World) (rl : List Ro) (a : Option Addr) (b0 : Nat) (A : Nat → Option Addr) (K : Nat → Nat) (lab : Nat → List Nat) : Prop where
  len : 48 * rl.length ≤ 281474976710656
  way : ∀ b, lab b ≠ [] → lo ≤ b ∧ b < w.heap.size
  base : 0 < rl.length → a = some ⟨b0, 0, none⟩ ∧ lab b0 = [1] ∧ ∀ i, w.frozen? ⟨b0, i, none⟩ = false
  rowc : ∀ k, k < rl.length → Sx3 w b0 (k * 3) (.string (rth rl k).type) (.int .i64 (rth rl k).id) (.slice (A k) (rth rl k).cells.length (K k))
  bnd : ∀ k, k < rl.length → (rth rl k).cells.length ≤ K k ∧ 96 * (rth rl k).cells.length ≤ 281474976710656 ∧ (rth rl k).type.size ≤ maxLen
  cells : ∀ k, k < rl.length → VCells L w lab [k + 2] (rth rl k).cells (A k)
/-- All rows have been copied. -/
theorem OwnRL.done {L : Bool} {w : World} {lo : Nat} {lab : Nat → List Nat} {rl : List Ro} {v : Value} {xs : List Value} (h : OwnRL L w lo lab rl v xs) (hlen : 48 * rl.length ≤ 281474976710656) (hcl : ∀ k, k < rl.length → 96 * (rth rl k).cells.length ≤ 281474976710656 ∧ (rth rl k).type.size ≤ maxLen) :
    ∃ (a : Option Addr) (c b0 : Nat) (A : Nat → Option Addr) (K : Nat → Nat) (lab' : Nat → List Nat), v = .slice a rl.length c ∧ rl.length ≤ c ∧ RM L lo w rl a b0 A K lab' := by
  obtain ⟨h1, h2, h3⟩ := h
  have h1' := h1
  rcases h1.2 with ⟨rfl, h0⟩ | ⟨g, cap, cur, rfl, hlo', hg, hn, _⟩
  · exact ⟨none, 0, 0, fun _ => none, fun _ => 0, fun _ => [], by rw [h0], by omega, hlen, fun b hb => absurd rfl hb, fun h => by omega, fun k hk => by omega, fun k hk => by omega, fun k hk => by omega⟩
  · have hlt : g < w.heap.size := (Array.getElem?_eq_some_iff.1 hg).1
    have c3 : ∀ k, ∃ (q : Option Addr × Nat), k < rl.length → xs.getD (k * 3) undef = .string (rth rl k).type ∧ xs.getD (k * 3 + 1) undef = .int .i64 (rth rl k).id ∧ xs.getD (k * 3 + 2) undef = .slice q.1 (rth rl k).cells.length q.2 ∧ (rth rl k).cells.length ≤ q.2 ∧ VCells L w lab [k + 2] (rth rl k).cells q.1 := fun k => by
      by_cases hk : k < rl.length
      · obtain ⟨ca, cc, f⟩ := h3 k hk
        exact ⟨(ca, cc), fun _ => f⟩
      · exact ⟨(none, 0), fun h => absurd h hk⟩
    obtain ⟨Q, hQ⟩ := Classical.skolem.1 c3
    have hx := h1.1
    refine ⟨some ⟨g, 0, none⟩, cap, g, fun k => (Q k).1, fun k => (Q k).2, fun b => if b = g then [1] else lab b, rfl, hn, hlen, fun b hb => ?_, fun _ => ⟨rfl, if_pos rfl, fun i => h1'.frozenAt i⟩, fun k hk => ?_, fun k hk => ⟨(hQ k hk).2.2.2.1, hcl k hk⟩, fun k hk => ?_⟩
    · by_cases e : b = g
      · rw [e]; exact ⟨hlo', hlt⟩
      · simp only [if_neg e] at hb
        obtain ⟨a1, a2, -⟩ := h2 b hb
        exact ⟨a1, a2⟩
    · obtain ⟨f1, f2, f3, -⟩ := hQ k hk
      have r : ∀ mm, mm < 3 → w.cell? ⟨g, k * 3 + mm, none⟩ = some (xs.getD (k * 3 + mm) undef) := fun mm hmm => by
        have := h1.cellAt (k * 3 + mm) (by omega)
        rw [this, List.getD_eq_getElem?_getD, List.getElem?_eq_getElem (by omega)]
        rfl
      refine ⟨?_, ?_, ?_⟩
      · have := r 0 (by omega); rw [Nat.add_zero, f1] at this; exact this
      · have := r 1 (by omega); rw [f2] at this; exact this
      · have := r 2 (by omega); rw [f3] at this; exact this
    · exact (hQ k hk).2.2.2.2.keep (fun b hb' _ => ⟨if_neg (fun e : b = g => (h2 b hb').2.2 (by rw [e]; rfl)), rfl⟩)
end Go.Proofs.YtmemijccbmnaaaaGreat

namespace Go.Proofs.YtmemijccbmnaaaaGreat
set_option linter.unusedSimpArgs false
set_option linter.unusedVariables false
open Go.RowKit

theorem RM.keep {L : Bool} {lo : Nat} {w w' : World} {rl : List Ro} {a : Option Addr} {b0 : Nat} {A : Nat → Option Addr} {K : Nat → Nat} {lab : Nat → List Nat} (h : RM L lo w rl a b0 A K lab) (hb : Below w.heap.size w w') : RM L lo w' rl a b0 A K lab := by
  have hz := hb.size
  have hlt : 0 < rl.length → b0 < w.heap.size := fun h0 => (h.way b0 (by rw [(h.base h0).2.1]; simp)).2
  refine ⟨h.len, fun b hb' => ?_, fun h0 => ⟨(h.base h0).1, (h.base h0).2.1, fun i => (World.frozen?_of_block (w := w) (a := ⟨b0, i, none⟩) (hb.block b0 (hlt h0))).trans ((h.base h0).2.2 i)⟩, fun k hk => (h.rowc k hk).keep (hb.block b0 (hlt (by omega))), h.bnd, fun k hk => (h.cells k hk).keep (fun b h1 _ => ⟨rfl, hb.block b (h.way b h1).2⟩)⟩
  obtain ⟨a1, a2⟩ := h.way b hb'
  exact ⟨a1, by omega⟩
theorem RM.row {L : Bool} {lo : Nat} {w : World} {rl : List Ro} {a : Option Addr} {b0 : Nat} {A : Nat → Option Addr} {K : Nat → Nat} {lab : Nat → List Nat} (h : RM L lo w rl a b0 A K lab) (k : Nat) (hk : k < rl.length) (mm : Nat) (hmm : mm < 3) : w.cell? ⟨b0, 0 + k * 3 + mm, none⟩ = some ([Value.string (rth rl k).type, .int .i64 (rth rl k).id, .slice (A k) (rth rl k).cells.length (K k)].getD mm undef) := by
  obtain ⟨r0, r1, r2⟩ := h.rowc k hk
  rw [Nat.zero_add]
  have : mm = 0 ∨ mm = 1 ∨ mm = 2 := by omega
  rcases this with rfl | rfl | rfl
  · exact r0
  · exact r1
  · exact r2
theorem RM.lrows {lo : Nat} {w : World} {rl : List Ro} {a : Option Addr} {b0 : Nat} {A : Nat → Option Addr} {K : Nat → Nat} {lab : Nat → List Nat} (h : RM true lo w rl a b0 A K lab) : LRows w lab [] rl a := fun h0 =>
  ⟨b0, 0, (h.base h0).1, (h.base h0).2.1, (h.base h0).2.2, fun k mm => [Value.string (rth rl k).type, .int .i64 (rth rl k).id, .slice (A k) (rth rl k).cells.length (K k)].getD mm undef, h.row, fun k hk => ⟨rfl, rfl, A k, K k, rfl, fun h1 => by
    obtain ⟨b, off, e1, e2, e3, C, c1, c2⟩ := h.cells k hk h1
    exact ⟨b, off, e1, e2, e3, C, c1, fun i hi => ⟨(c2 i hi).2.1, (c2 i hi).1 rfl⟩⟩⟩⟩
theorem RM.reps {L : Bool} {lo : Nat} {w : World} {rl : List Ro} {a : Option Addr} {b0 : Nat} {A : Nat → Option Addr} {K : Nat → Nat} {lab : Nat → List Nat} (h : RM L lo w rl a b0 A K lab) : RoReps w (fun b => lo ≤ b ∧ b < w.heap.size) rl a := by
  refine ⟨h.len, fun k mm => [Value.string (rth rl k).type, .int .i64 (rth rl k).id, .slice (A k) (rth rl k).cells.length (K k)].getD mm undef, fun h0 => ⟨b0, 0, (h.base h0).1, h.way b0 (by rw [(h.base h0).2.1]; simp), h.row⟩, fun k hk => ⟨A k, K k, rfl, ⟨(h.bnd k hk).2.1, ?_⟩, (h.bnd k hk).1, (h.bnd k hk).2.2⟩⟩
  by_cases h1 : 0 < (rth rl k).cells.length
  · obtain ⟨b, off, e1, e2, e3, C, c1, c2⟩ := h.cells k hk h1
    refine ⟨C, fun _ => ⟨b, off, e1, h.way b (by rw [e2]; simp), c1⟩, fun i hi => ?_⟩
    obtain ⟨-, q1, q2, q3⟩ := c2 i hi
    exact ⟨_, _, _, _, _, by rw [q1], q2.sub fun b hb => h.way b (suffix_ne hb), q3⟩
  · exact ⟨fun _ _ => undef, fun h2 => absurd h2 h1, fun i hi => by omega⟩
theorem cth_set (cs : List Ce) (j i : Nat) (c : Ce) (hj : j < cs.length) : cth (cs.set j c) i = if i = j then c else cth cs i := by
  unfold cth
  rw [List.getD_eq_getElem?_getD, List.getD_eq_getElem?_getD, List.getElem?_set]
  by_cases e : j = i
  · subst e; simp [hj]
  · rw [if_neg e, if_neg (fun h => e h.symm)]
theorem rth_set (rs : List Ro) (j i : Nat) (r : Ro) (hj : j < rs.length) : rth (rs.set j r) i = if i = j then r else rth rs i := by
  unfold rth
  rw [List.getD_eq_getElem?_getD, List.getD_eq_getElem?_getD, List.getElem?_set]
  by_cases e : j = i
  · subst e; simp [hj]
  · rw [if_neg e, if_neg (fun h => e h.symm)]
/-- One value is replaced. -/
theorem VCells.put {L : Bool} {w1 : World} {lab : Nat → List Nat} {p : List Nat} {cs : List Ce} {j b off : Nat} {x : V} (h : VCells L w1 lab p cs (some ⟨b, off, none⟩)) (hj : j < cs.length) {d0 d1 d2 d3 d4 : Value}
    (hL : L = true → LRep w1 lab ((j + 2) :: p) x (.agg #[d0, d1, d2, d3, d4])) (hR : Rep w1 (fun b => ((j + 2) :: p) <:+ lab b) x (.agg #[d0, d1, d2, d3, d4])) :
    VCells L (put5 w1 b (off + j * 6 + 1) d0 d1 d2 d3 d4) lab p (cs.set j ⟨(cth cs j).name, x⟩) (some ⟨b, off, none⟩) := fun hn => by
  obtain ⟨b', off', h1, h2, h3, C, h4, h5⟩ := h (by omega)
  simp only [Option.some.injEq, Addr.mk.injEq, and_true] at h1
  obtain ⟨rfl, rfl⟩ := h1
  have hoth : ∀ m, ¬ (off + j * 6 + 1 ≤ m ∧ m < off + j * 6 + 6) → (put5 w1 b (off + j * 6 + 1) d0 d1 d2 d3 d4).cell? ⟨b, m, none⟩ = w1.cell? ⟨b, m, none⟩ := fun m hm => by
    unfold put5
    rw [World.cell?_setCell_other _ _ _ _ (by intro e; simp only [Addr.mk.injEq, and_true, true_and] at e; omega), World.cell?_setCell_other _ _ _ _ (by intro e; simp only [Addr.mk.injEq, and_true, true_and] at e; omega), World.cell?_setCell_other _ _ _ _ (by intro e; simp only [Addr.mk.injEq, and_true, true_and] at e; omega), World.cell?_setCell_other _ _ _ _ (by intro e; simp only [Addr.mk.injEq, and_true, true_and] at e; omega), World.cell?_setCell_other _ _ _ _ (by intro e; simp only [Addr.mk.injEq, and_true, true_and] at e; omega)]
  have q : ∀ m, m < 6 → w1.cell? ⟨b, off + j * 6 + m, none⟩ = some (C j m) := fun m hm => h4 j hj m hm
  have hS : Sx6 (put5 w1 b (off + j * 6 + 1) d0 d1 d2 d3 d4) b (off + j * 6) (C j 0) d0 d1 d2 d3 d4 := by
    have s0 : Sx6 w1 b (off + j * 6) (C j 0) (C j 1) (C j 2) (C j 3) (C j 4) (C j 5) := ⟨q 0 (by omega), q 1 (by omega), q 2 (by omega), q 3 (by omega), q 4 (by omega), q 5 (by omega)⟩
    have s1 := ((s0.set1 d0).set2 d1).set3 d2
    obtain ⟨a0, a1, a2, a3, a4, a5⟩ := s1
    refine ⟨set_other (set_other a0 (by omega)) (by omega), set_other (set_other a1 (by omega)) (by omega), set_other (set_other a2 (by omega)) (by omega), set_other (set_other a3 (by omega)) (by omega), set_other (World.cell?_setCell_same _ _ _ a4) (by omega), World.cell?_setCell_same _ _ _ (set_other a5 (by omega))⟩
  have hblk := put5_block w1 b (off + j * 6 + 1) d0 d1 d2 d3 d4
  refine ⟨b, off, rfl, h2, fun i => by have := h3 i; simpa [put5] using this, fun i m => if i = j then [C j 0, d0, d1, d2, d3, d4].getD m undef else C i m, fun i hi m hm => ?_, fun i hi => ?_⟩
  · rw [List.length_set] at hi
    show _ = some (if i = j then [C j 0, d0, d1, d2, d3, d4].getD m undef else C i m)
    by_cases e : i = j
    · subst e
      rw [if_pos rfl]
      obtain ⟨a0, a1, a2, a3, a4, a5⟩ := hS
      have : m = 0 ∨ m = 1 ∨ m = 2 ∨ m = 3 ∨ m = 4 ∨ m = 5 := by omega
      rcases this with rfl | rfl | rfl | rfl | rfl | rfl
      · exact a0
      · exact a1
      · exact a2
      · exact a3
      · exact a4
      · exact a5
    · rw [if_neg e, hoth _ (by omega)]
      exact h4 i hi m hm
  · rw [List.length_set] at hi
    have h5i := h5 i hi
    by_cases e : i = j
    · subst e
      have e' : cth (cs.set i ⟨(cth cs i).name, x⟩) i = ⟨(cth cs i).name, x⟩ := by rw [cth_set _ _ _ _ hi, if_pos rfl]
      obtain ⟨-, q1, -, q3⟩ := h5i
      unfold VE SCe
      rw [e']
      simp only [if_true]
      refine ⟨fun hLt => ?_, q1, ?_, q3⟩
      · exact (hL hLt).keep fun c k1 k2 => hblk c (fun e => lab_own h2 (e ▸ k2))
      · exact hR.mono fun c k2 => hblk c (fun e => lab_own h2 (e ▸ k2))
    · exact h5i.keep2 (by rw [cth_set _ _ _ _ hj, if_neg e]) (fun m _ => if_neg e) fun c k1 k2 => ⟨rfl, hblk c (fun e => lab_own h2 (e ▸ k2))⟩
/-- One value of a row is replaced by a copy in new memory. -/
theorem RM.put {L : Bool} {lo : Nat} {w w1 : World} {rl : List Ro} {a : Option Addr} {b0 : Nat} {A : Nat → Option Addr} {K : Nat → Nat} {lab : Nat → List Nat} (h : RM L lo w rl a b0 A K lab) (hlo : lo ≤ w.heap.size) {i j b off : Nat} {x : V} (hi : i < rl.length) (hj : j < (rth rl i).cells.length) (hA : A i = some ⟨b, off, none⟩)
    (hb : Below w.heap.size w w1) {lab1 : Nat → List Nat} (hl1 : ∀ b, lab1 b ≠ [] → w.heap.size ≤ b ∧ b < w1.heap.size) {d0 d1 d2 d3 d4 : Value}
    (hL : L = true → LRep w1 lab1 [] x (.agg #[d0, d1, d2, d3, d4])) (hR : Rep w1 (fun b => w.heap.size ≤ b ∧ b < w1.heap.size) x (.agg #[d0, d1, d2, d3, d4])) :
    ∃ lab', RM L lo (put5 w1 b (off + j * 6 + 1) d0 d1 d2 d3 d4) (rl.set i ⟨(rth rl i).type, (rth rl i).id, (rth rl i).cells.set j ⟨(cth (rth rl i).cells j).name, x⟩⟩) a b0 A K lab' ∧ lo ≤ b ∧ lab b ≠ [] := by
  have hz := hb.size
  have h0 : 0 < rl.length := by omega
  have hb0 := (h.base h0).2.1
  have hb0w := h.way b0 (by rw [hb0]; simp)
  obtain ⟨lab', hlab'⟩ : ∃ lab' : Nat → List Nat, lab' = fun b => if w.heap.size ≤ b ∧ b < w1.heap.size then lab1 b ++ [j + 2, i + 2] else lab b := ⟨_, rfl⟩
  have hin : ∀ b, w.heap.size ≤ b ∧ b < w1.heap.size → lab' b = lab1 b ++ [j + 2, i + 2] := fun b hb => by rw [hlab']; exact if_pos hb
  have hout : ∀ b, ¬ (w.heap.size ≤ b ∧ b < w1.heap.size) → lab' b = lab b := fun b hb => by rw [hlab']; exact if_neg hb
  have hold : ∀ c, lab c ≠ [] → lab' c = lab c ∧ w1.heap[c]? = w.heap[c]? := fun c hc => by
    obtain ⟨a1, a2⟩ := h.way c hc
    exact ⟨hout c (by omega), hb.block c a2⟩
  have hMi := h.cells i hi
  rw [hA] at hMi
  have hbl : lab b = [1, i + 2] := by
    obtain ⟨b', off', e1, e2, -⟩ := hMi (by omega)
    simp only [Option.some.injEq, Addr.mk.injEq, and_true] at e1
    rw [e1.1]; exact e2
  have hbw := h.way b (by rw [hbl]; simp)
  have hbb0 : b0 ≠ b := fun e => by rw [e, hbl] at hb0; simp at hb0
  have hblk := put5_block w1 b (off + j * 6 + 1) d0 d1 d2 d3 d4
  have hpz := put5_size w1 b (off + j * 6 + 1) d0 d1 d2 d3 d4
  have hbl0 : (put5 w1 b (off + j * 6 + 1) d0 d1 d2 d3 d4).heap[b0]? = w.heap[b0]? := (hblk b0 hbb0).trans (hold b0 (by rw [hb0]; simp)).2
  have hrl : ∀ k, rth (rl.set i ⟨(rth rl i).type, (rth rl i).id, (rth rl i).cells.set j ⟨(cth (rth rl i).cells j).name, x⟩⟩) k = if k = i then ⟨(rth rl i).type, (rth rl i).id, (rth rl i).cells.set j ⟨(cth (rth rl i).cells j).name, x⟩⟩ else rth rl k := fun k => rth_set _ _ _ _ hi
  refine ⟨lab', ⟨by rw [List.length_set]; exact h.len, fun c hc => ?_, fun _ => ⟨(h.base h0).1, (hold b0 (by rw [hb0]; simp)).1.trans hb0, fun i => (World.frozen?_of_block (w := w) (a := ⟨b0, i, none⟩) hbl0).trans ((h.base h0).2.2 i)⟩, fun k hk => ?_, fun k hk => ?_, fun k hk => ?_⟩, hbw.1, by rw [hbl]; simp⟩
  · rw [hpz]
    by_cases e : w.heap.size ≤ c ∧ c < w1.heap.size
    · exact ⟨by omega, by omega⟩
    · rw [hout c e] at hc
      obtain ⟨a1, a2⟩ := h.way c hc
      exact ⟨a1, by omega⟩
  · rw [List.length_set] at hk
    have := (h.rowc k hk).keep hbl0
    rw [hrl]
    by_cases e : k = i
    · subst e
      rw [if_pos rfl]
      simpa using this
    · rw [if_neg e]; exact this
  · rw [List.length_set] at hk
    have := h.bnd k hk
    rw [hrl]
    by_cases e : k = i
    · subst e
      rw [if_pos rfl]
      simpa using this
    · rw [if_neg e]; exact this
  · rw [List.length_set] at hk
    rw [hrl]
    by_cases e : k = i
    · subst e
      rw [if_pos rfl, hA]
      have h1 : VCells L w1 lab' [k + 2] (rth rl k).cells (some ⟨b, off, none⟩) := hMi.keep (fun c k1 _ => hold c k1)
      refine h1.put hj (fun hLt => ?_) ?_
      · exact (hL hLt).relabel (lab' := lab') (q := [j + 2, k + 2]) (fun c hc => hin c (hl1 c hc))
      · exact hR.sub fun c hc => by rw [hin c hc]; exact List.suffix_append _ _
    · rw [if_neg e]
      refine (h.cells k hk).keep (fun c k1 k2 => ⟨(hold c k1).1, (hblk c (fun ec => ?_)).trans (hold c k1).2⟩)
      rw [ec, hbl] at k2
      have h2 := List.suffix_of_suffix_length_le k2 (List.suffix_cons 1 [i + 2]) (by simp)
      have h3 := h2.eq_of_length (by simp)
      simp at h3
      omega
end Go.Proofs.YtmemijccbmnaaaaGreat

namespace Go.Proofs.YtmemijccbmnaaaaGreat
set_option linter.unusedSimpArgs false
set_option linter.unusedVariables false
open Go.RowKit

theorem take_cth (cs : List Ce) (n : Nat) (h : n < cs.length) : cs.take (n + 1) = cs.take n ++ [cth cs n] := by
  rw [List.take_succ_eq_append_getElem h]
  simp [cth, List.getD_eq_getElem?_getD, h]
theorem take_rth (rs : List Ro) (n : Nat) (h : n < rs.length) : rs.take (n + 1) = rs.take n ++ [rth rs n] := by
  rw [List.take_succ_eq_append_getElem h]
  simp [rth, List.getD_eq_getElem?_getD, h]

/-- Rows made by a call, in new memory. -/
def RowsMade (L : Bool) (w w' : World) (rl : List Ro) (e : Ending) : Prop := ∃ (a : Option Addr) (c b0 : Nat) (A : Nat → Option Addr) (K : Nat → Nat) (lab : Nat → List Nat), e = .returned (.slice a rl.length c) ∧ rl.length ≤ c ∧ RM L w.heap.size w' rl a b0 A K lab
theorem RowsMade.of {L : Bool} {w w' : World} {rl : List Ro} {v : Value} (h : ∃ (a : Option Addr) (c b0 : Nat) (A : Nat → Option Addr) (K : Nat → Nat) (lab' : Nat → List Nat), v = .slice a rl.length c ∧ rl.length ≤ c ∧ RM L w.heap.size w' rl a b0 A K lab') : RowsMade L w w' rl (.returned v) := by
  obtain ⟨a, c, b0, A, K, lab, rfl, h1, h2⟩ := h
  exact ⟨a, c, b0, A, K, lab, rfl, h1, h2⟩

set_option maxRecDepth 20000 in
set_option maxHeartbeats 3200000 in
theorem copyRows_any (rs : List Ro) (w : World) (ra : Option Addr) (rc : Nat) (hR : RoReps w (· < w.heap.size) rs ra) (hlen : rs.length ≤ 1048576) (hcl : ∀ i, i < rs.length → (rth rs i).cells.length ≤ 1048576 ∧ ∀ j, j < (rth rs i).cells.length → szV (cth (rth rs i).cells j).val ≤ 1048576) :
    Calls Tryz.prog 30 #[.slice ra rs.length rc] w fun e w' => RowsMade true w w' rs e ∧ Below w.heap.size w w' := by
  obtain ⟨i0, hi, hz0, hz1, hz2⟩ := info_parts info_Row
  obtain ⟨i1, hi', hz0', hz1', hz2'⟩ := info_parts info_Cell
  obtain ⟨h48, C, hA, hr⟩ := id hR
  have HRR := hid_of hr
  go_enter Tryz.func30, Tryz.ntmps30
  go_wp2_with fail
  go_loopw [3, 11] (fun o i wr => ∃ (k : Nat) (v : Value) (xs : List Value) (lab : Nat → List Nat), k ≤ rs.length ∧ i = .int .i64 k ∧ v = o ∧ Hid (OwnRL true wr w.heap.size lab (rs.take k) v xs) ∧ Below w.heap.size w wr) (fun _ i _ => rs.length - (intOf i).toNat)
  case atStart => exact ⟨0, _, [], _, Nat.zero_le _, rfl, rfl, hid_of (OwnRL.nil _ _ _), Below.refl _ _⟩
  case round =>
    obtain ⟨k, v, xs, lab, hk, rfl, rfl, HO, hbel⟩ := hrel
    obtain ⟨w0, rfl⟩ : ∃ x, x = wr := ⟨wr, rfl⟩
    have zb := hbel.size
    by_cases hlt : k < rs.length
    · obtain ⟨rb, roff, rfl, hrB, hrc'⟩ := hA (by omega)
      have hki : (k : Int) < (rs.length : Int) := by omega
      obtain ⟨ca, ccp, e0, e1, e2, hCe, hcc, htz⟩ := (hr k hlt).pieces
      have hck : ∀ m, m < 3 → w0.cell? ⟨rb, roff + k * 3 + m, none⟩ = some (C k m) := fun m hm => (hbel.cell (p := ⟨rb, roff + k * 3 + m, none⟩) hrB).trans (hrc' k hlt m hm)
      have r0 : w0.cell? ⟨rb, roff + k * 3, none⟩ = some (.string (rth rs k).type) := e0 ▸ hck 0 (by omega)
      have r1 : w0.cell? ⟨rb, roff + k * 3 + 1, none⟩ = some (.int .i64 (rth rs k).id) := e1 ▸ hck 1 (by omega)
      have r2 : w0.cell? ⟨rb, roff + k * 3 + 2, none⟩ = some (.slice ca (rth rs k).cells.length ccp) := e2 ▸ hck 2 (by omega)
      obtain ⟨hc1, hc2⟩ := hcl k hlt
      have HTR := hid_of (take_rth rs k hlt)
      have hlk : (rs.take k).length = k := by simp; omega
      clear hck e0 e1 e2
      generalize rth rs k = r at *
      obtain ⟨h96, D, hAD, hrD⟩ := hCe
      have bX := below_box2 w0 (.cells #[.string r.type, .int .i64 r.id, .slice ca r.cells.length ccp] 69) (.cells #[.string r.type, .int .i64 r.id, .slice none 0 0] 69)
      have nA := block_old (.cells #[.string r.type, .int .i64 r.id, .slice none 0 0] 69) (block_new (w := w0) #[.string r.type, .int .i64 r.id, .slice ca r.cells.length ccp] 69 rfl) (by simp)
      have nO := block_new (w := w0.alloc (.cells #[.string r.type, .int .i64 r.id, .slice ca r.cells.length ccp] 69)) #[.string r.type, .int .i64 r.id, .slice none 0 0] 69 (N := w0.heap.size + 1) (by simp)
      have zX : ((w0.alloc (.cells #[.string r.type, .int .i64 r.id, .slice ca r.cells.length ccp] 69)).alloc (.cells #[.string r.type, .int .i64 r.id, .slice none 0 0] 69)).heap.size = w0.heap.size + 1 + 1 := by simp
      obtain ⟨X2, hXe⟩ : ∃ X, X = (w0.alloc (.cells #[.string r.type, .int .i64 r.id, .slice ca r.cells.length ccp] 69)).alloc (.cells #[.string r.type, .int .i64 r.id, .slice none 0 0] 69) := ⟨_, rfl⟩
      have HXE := hid_of hXe
      rw [← hXe] at bX nA nO zX
      have zX1 : w0.heap.size + 1 + 1 ≤ X2.heap.size := by omega
      clear hXe
      go_wp2_with fail
      obtain ⟨ob, hob⟩ : ∃ ob, ob = w0.heap.size + 1 := ⟨_, rfl⟩
      rw [← hob]
      rw [← hob] at nO
      have hob1 : w0.heap.size + 1 ≤ ob := by omega
      have hob3 : ob ≤ w0.heap.size + 1 := by omega
      clear hob
      go_loopw [23] (fun i wr => ∃ (n : Nat) (va : Option Addr) (vc : Nat) (ys : List Value) (lab2 : Nat → List Nat), n ≤ r.cells.length ∧ i = .int .i64 n ∧ wr.heap[ob]? = some (.cells #[.string r.type, .int .i64 r.id, .slice va n vc] 69 (0, 0)) ∧ Hid (OwnCL true wr (w0.heap.size + 1 + 1) ob lab2 [k + 2] (r.cells.take n) (.slice va n vc) ys) ∧ Below (w0.heap.size + 1) X2 wr ∧ ob < wr.heap.size) (fun i _ => r.cells.length - (intOf i).toNat)
      case atStart =>
        rw [← HXE.out]
        exact ⟨0, none, 0, [], _, Nat.zero_le _, rfl, nO, hid_of (OwnCL.nil _ _ _ _ _), Below.refl _ _, by omega⟩
      case round =>
        clear nO
        obtain ⟨n, va, vc, ys, lab2, hn, rfl, nO, HOC, hbc, hob2⟩ := hrel
        obtain ⟨w4, rfl⟩ : ∃ x, x = wr := ⟨wr, rfl⟩
        have zc := hbc.size
        obtain ⟨s0, -⟩ := box_at ((hbc.block w0.heap.size (by omega)).trans nA) 2 (by simp)
        have bw4 : Below w.heap.size w w4 := (hbel.trans (bX.mono (by omega))).trans (hbc.mono (by omega))
        by_cases hnt : n < r.cells.length
        · obtain ⟨cb, coff, rfl, hcB, hcD⟩ := hAD (by omega)
          have hni : (n : Int) < (r.cells.length : Int) := by omega
          obtain ⟨e0, hV, hnm⟩ := (hrD n hnt).pieces
          obtain ⟨na, ka, nc, kc, e5, -⟩ := hV.form
          simp only [Value.agg.injEq, Array.mk.injEq, List.cons.injEq, and_true] at e5
          obtain ⟨f1, f2, f3, f4, f5⟩ := e5
          rw [f1, f2, f3, f4, f5] at hV
          have hck : ∀ m, m < 6 → w4.cell? ⟨cb, coff + n * 6 + m, none⟩ = some (D n m) := fun m hm => (bw4.cell (p := ⟨cb, coff + n * 6 + m, none⟩) hcB).trans (hcD n hnt m hm)
          have q0 : w4.cell? ⟨cb, coff + n * 6, none⟩ = some (.string (cth r.cells n).name) := e0 ▸ hck 0 (by omega)
          have q1 : w4.cell? ⟨cb, coff + n * 6 + 1, none⟩ = some (.int .i64 (cth r.cells n).val.sort) := f1 ▸ hck 1 (by omega)
          have q2 : w4.cell? ⟨cb, coff + n * 6 + 2, none⟩ = some (.int .i64 (cth r.cells n).val.num) := f2 ▸ hck 2 (by omega)
          have q3 : w4.cell? ⟨cb, coff + n * 6 + 3, none⟩ = some (.string (cth r.cells n).val.text) := f3 ▸ hck 3 (by omega)
          have q4 : w4.cell? ⟨cb, coff + n * 6 + 4, none⟩ = some (.slice na (cth r.cells n).val.names.length nc) := f4 ▸ hck 4 (by omega)
          have q5 : w4.cell? ⟨cb, coff + n * 6 + 5, none⟩ = some (.slice ka (cth r.cells n).val.kids.length kc) := f5 ▸ hck 5 (by omega)
          have hsx := hc2 n hnt
          have hTK : r.cells.take (n + 1) = r.cells.take n ++ [⟨(cth r.cells n).name, (cth r.cells n).val⟩] := take_cth r.cells n hnt
          have HTK := hid_of hTK
          have hl : (r.cells.take n).length = n := by simp; omega
          have HL := hid_of hl
          clear hck e0 f1 f2 f3 f4 f5 hTK
          generalize (cth r.cells n).val = x at *
          generalize (cth r.cells n).name = nm at *
          have HOV : Hid (∀ W, Below w4.heap.size w4 W → W.ownsRow (w0.heap.size + 1 + 1) 109 6 (.slice va n vc) n ys) := hid_of fun W hW => by
            have h := HOC.out.own
            rw [hl] at h
            exact owns_same h fun b hb => hW.block b (h.lt b hb).2
          have b49 := below_box w4 (.cells #[.string nm, .int .i64 x.sort, .int .i64 x.num, .string x.text, .slice na x.names.length nc, .slice ka x.kids.length kc] 109)
          have K9 := block_new (w := w4) #[.string nm, .int .i64 x.sort, .int .i64 x.num, .string x.text, .slice na x.names.length nc, .slice ka x.kids.length kc] 109 rfl
          have nO9 := (b49.block ob hob2).trans nO
          have hVB := hV.under (bw4.trans (b49.mono (by have := bw4.size; omega)))
          clear hl hV
          go_wp2_with fail
          have z49 : w4.heap.size ≤ (w4.alloc (.cells #[.string nm, .int .i64 x.sort, .int .i64 x.num, .string x.text, .slice na x.names.length nc, .slice ka x.kids.length kc] 109)).heap.size := by simp
          have z94 : w4.heap.size < (w4.alloc (.cells #[.string nm, .int .i64 x.sort, .int .i64 x.num, .string x.text, .slice na x.names.length nc, .slice ka x.kids.length kc] 109)).heap.size := by simp
          generalize (w4.alloc (.cells #[.string nm, .int .i64 x.sort, .int .i64 x.num, .string x.text, .slice na x.names.length nc, .slice ka x.kids.length kc] 109)) = w9 at *
          have hCV := copyValue_l x w9.drew w.heap.size _ hsx (hVB.mono (w' := w9.drew) fun _ _ => rfl) (by show _ ≤ w9.heap.size; have := bw4.size; omega)
          unfold CvL at hCV
          have HCV := hid_of hCV
          have HS : Hid (∀ W : World, W.heap[w4.heap.size]? = some (.cells #[.string nm, .int .i64 x.sort, .int .i64 x.num, .string x.text, .slice na x.names.length nc, .slice ka x.kids.length kc] 109 (0, 0)) → W.cell? ⟨w4.heap.size, 0, none⟩ = some (.string nm) ∧ W.cell? ⟨w4.heap.size, 1, none⟩ = some (.int .i64 x.sort) ∧ W.cell? ⟨w4.heap.size, 2, none⟩ = some (.int .i64 x.num) ∧ W.cell? ⟨w4.heap.size, 3, none⟩ = some (.string x.text) ∧ W.cell? ⟨w4.heap.size, 4, none⟩ = some (.slice na x.names.length nc) ∧ W.cell? ⟨w4.heap.size, 5, none⟩ = some (.slice ka x.kids.length kc)) := hid_of fun W h => ⟨(box_at h 0 (by simp)).1, (box_at h 1 (by simp)).1, (box_at h 2 (by simp)).1, (box_at h 3 (by simp)).1, (box_at h 4 (by simp)).1, (box_at h 5 (by simp)).1⟩
          obtain ⟨o29, -⟩ := box_at nO9 2 (by simp)
          clear hCV q0 q1 q2 q3 q4 q5 hVB s0 r0 r1 r2
          refine wp_region_held_drew (S := (fun w' => w'.cell? ⟨w4.heap.size, 0, none⟩ = some (.string nm) ∧ w'.cell? ⟨w4.heap.size, 1, none⟩ = some (.int .i64 x.sort) ∧ w'.cell? ⟨w4.heap.size, 2, none⟩ = some (.int .i64 x.num) ∧ w'.cell? ⟨w4.heap.size, 3, none⟩ = some (.string x.text) ∧ w'.cell? ⟨w4.heap.size, 4, none⟩ = some (.slice na x.names.length nc) ∧ w'.cell? ⟨w4.heap.size, 5, none⟩ = some (.slice ka x.kids.length kc))) (by kernel_rfl) (HS.out _ K9) (fun hHeld => ?_)
          refine wpAnyH_take (i := 0) (v := ?_) rfl (by kernel_rfl) (by kernel_rfl) (by kernel_rfl) (fun _ _ _ h => h) (Or.inl ⟨by rfl, ?_⟩) hHeld ?_
          rotate_left
          · intro w' hSw
            (try dsimp only at hSw)
            go_simp
            try with_reducible rfl
          try simp only [Act.put, List.setIfInBounds_toArray, List.set_cons_zero, List.set_cons_succ]
          refine wpAnyH_take (i := 2) (v := ?_) rfl (by kernel_rfl) (by kernel_rfl) (by kernel_rfl) (fun _ _ _ h => h) (Or.inl ⟨by rfl, ?_⟩) hHeld ?_
          rotate_left
          · intro w' hSw
            (try dsimp only at hSw)
            go_simp
            try with_reducible rfl
          try simp only [Act.put, List.setIfInBounds_toArray, List.set_cons_zero, List.set_cons_succ]
          refine wpAnyH_take (i := 3) (v := ?_) rfl (by kernel_rfl) (by kernel_rfl) (by kernel_rfl) (fun _ _ _ h => h) (Or.inl ⟨by rfl, ?_⟩) hHeld ?_
          rotate_left
          · intro w' hSw
            (try dsimp only at hSw)
            go_simp
            try with_reducible rfl
          try simp only [Act.put, List.setIfInBounds_toArray, List.set_cons_zero, List.set_cons_succ]
          refine wpAnyH_take (i := 4) (v := ?_) rfl (by kernel_rfl) (by kernel_rfl) (by kernel_rfl) (fun _ _ _ h => h) (Or.inl ⟨by rfl, ?_⟩) hHeld ?_
          rotate_left
          · intro w' hSw
            (try dsimp only at hSw)
            go_simp
            try with_reducible rfl
          try simp only [Act.put, List.setIfInBounds_toArray, List.set_cons_zero, List.set_cons_succ]
          refine wpAnyH_take (i := 5) (v := ?_) rfl (by kernel_rfl) (by kernel_rfl) (by kernel_rfl) (fun _ _ _ h => h) (Or.inl ⟨by rfl, ?_⟩) hHeld ?_
          rotate_left
          · intro w' hSw
            (try dsimp only at hSw)
            go_simp
            try with_reducible rfl
          try simp only [Act.put, List.setIfInBounds_toArray, List.set_cons_zero, List.set_cons_succ]
          refine wpAnyH_ready (rs := [1, 6]) (by kernel_rfl) (by simp) ?_
          refine AllReadyH.cons rfl (fun K hK => ?_) ?_
          · go_simp
            refine hK.out _ _ hHeld (fun hHeld => ?_)
            clear hK K
            try simp only [Act.put, List.setIfInBounds_toArray, List.set_cons_zero, List.set_cons_succ]
            refine wpAnyH_ready (rs := [6]) (by kernel_rfl) (by simp) ?_
            refine AllReadyH.cons rfl (fun K hK => ?_) AllReadyH.nil
            go_simp
            refine HCV.out.mono ?_
            rintro e w5 ⟨na', ka', nc', kc', rfl, hb5, hr5, lab1, hl1, hL1⟩
            have b5 : Below w9.heap.size w9 w5 := below_undrew hb5
            have z5 := b5.size
            have K5 := (b5.block _ (by omega)).trans K9
            have nO5 := (b5.block _ (by omega)).trans nO9
            obtain ⟨o25, -⟩ := box_at nO5 2 (by simp)
            have H5 := hid_of (And.intro hr5 (And.intro hl1 hL1))
            clear hr5 hl1 hL1 hb5
            refine hK.out _ _ (HS.out _ K5) (fun hHeld => ?_)
            clear hK K
            try simp only [Act.put, List.setIfInBounds_toArray, List.set_cons_zero, List.set_cons_succ]
            refine wpAnyH_take (i := 7) (v := ?_) rfl (by kernel_rfl) (by kernel_rfl) (by kernel_rfl) (fun _ _ _ h => h) (Or.inl ⟨by rfl, ?_⟩) hHeld ?_
            rotate_left
            · intro w' hSw
              (try dsimp only at hSw)
              go_simp
              try with_reducible rfl
            try simp only [Act.put, List.setIfInBounds_toArray, List.set_cons_zero, List.set_cons_succ]
            refine wpAnyH_ready (rs := [8]) (by kernel_rfl) (by simp) ?_
            refine AllReadyH.cons rfl (fun K hK => ?_) AllReadyH.nil
            go_simp
            have o2a : (w5.alloc (.cells #[.string nm, .int .i64 x.sort, .int .i64 x.num, .string x.text, .slice na' x.names.length nc', .slice ka' x.kids.length kc'] 109)).cell? ⟨ob, 2, none⟩ = some (.slice va n vc) := ((below_box w5 _).cell (p := ⟨ob, 2, none⟩) (by show ob < _; omega)).trans o25
            have K5a := ((below_box w5 (.cells #[.string nm, .int .i64 x.sort, .int .i64 x.num, .string x.text, .slice na' x.names.length nc', .slice ka' x.kids.length kc'] 109)).block _ (by omega)).trans K5
            refine hK.out _ _ (HS.out _ K5a) (fun hHeld => ?_)
            clear hK K
            try simp only [Act.put, List.setIfInBounds_toArray, List.set_cons_zero, List.set_cons_succ]
            refine wpAnyH_ready (rs := [9]) (by kernel_rfl) (by simp) ?_
            refine AllReadyH.cons rfl (fun K hK => ?_) AllReadyH.nil
            refine step_append_lies _ rfl (.tmp 28) (.tmp 35) 67 rfl (w0.heap.size + 1 + 1) 109 i1 (.agg #[.string ByteArray.empty, .int .i64 0, .int .i64 0, .string ByteArray.empty, .slice none 0 0, .slice none 0 0]) 6 96 Tryz.underlying67 hi' hz0' hz1' hz2' rfl (by decide) (.slice va n vc) n ys rfl (HOV.out _ ((b49.trans (b5.mono z49)).trans ((below_box w5 _).mono (by omega)))) ⟨w5.heap.size, 0, none⟩ 1 1 [.string nm, .int .i64 x.sort, .int .i64 x.num, .string x.text, .slice na' x.names.length nc', .slice ka' x.kids.length kc'] rfl rfl (World.news_of_block (heap_alloc_new w5 _)) (by intro u hu; simp at hu; rcases hu with rfl | rfl | rfl | rfl | rfl | rfl <;> rfl) (by omega) (by unfold maxLen; omega) (by omega) (by simp; omega) (w5.heap.size + 1) (by simp) ?_
            intro g cap w7 hown7 hgrow hat hlt7
            have z7 := hgrow.size
            simp at z7
            have nO7 := ((hgrow.block ob (by simp; omega) (fun e => HOC.out.apart e.symm)).trans ((below_box w5 _).block ob (by omega))).trans nO5
            have K7 := ((hgrow.block w4.heap.size (by simp; omega) (fun e => by have := (HOC.out.own.lt _ e.symm).2; omega)).trans ((below_box w5 _).block w4.heap.size (by omega))).trans K5
            obtain ⟨o27, of27⟩ := box_at nO7 2 (by simp)
            have H7 := hid_of (And.intro hown7 (And.intro hgrow (And.intro hat nO7)))
            clear hown7 hgrow hat nO7
            refine hK.out _ _ (HS.out _ K7) (fun hHeld => ?_)
            clear hK K
            try simp only [Act.put, List.setIfInBounds_toArray, List.set_cons_zero, List.set_cons_succ]
            refine wpAnyH_take (i := 10) (v := ?_) rfl (by kernel_rfl) (by kernel_rfl) (by kernel_rfl) (fun _ _ _ h => h) (Or.inl ⟨by rfl, ?_⟩) hHeld ?_
            rotate_left
            · intro w' hSw
              (try dsimp only at hSw)
              go_simp
              try with_reducible rfl
            try simp only [Act.put, List.setIfInBounds_toArray, List.set_cons_zero, List.set_cons_succ]
            refine wpAnyH_ready (rs := [11]) (by kernel_rfl) (by simp) ?_
            refine AllReadyH.cons rfl (fun K hK => ?_) AllReadyH.nil
            go_simp
            have K8 := (Below.heap_setCell w7 ⟨ob, 2, none⟩ (.slice (some ⟨g, 0, none⟩) (n + 1) cap) w4.heap.size (by show w4.heap.size ≠ ob; omega)).trans K7
            refine hK.out _ _ (HS.out _ K8) (fun hHeld => ?_)
            clear hK K
            try simp only [Act.put, List.setIfInBounds_toArray, List.set_cons_zero, List.set_cons_succ]
            refine wpAnyH_done (by kernel_rfl) ?_ _
            go_wp2_with fail
            go_roundw
            case measure => simp [intOf]; omega
            case rel =>
              obtain ⟨hown7, hgrow, hat, nO7⟩ := H7.out
              obtain ⟨hr5, hl1, hL1⟩ := H5.out
              have b45 : Below w4.heap.size w4 w5 := b49.trans (b5.mono z49)
              obtain ⟨lab', hst⟩ := HOC.out.step (c := ⟨nm, x⟩) (by omega) hob2 b45 (fun b hb => by have := hl1 b hb; have : w9.heap.size ≤ b := (hl1 b hb).1; exact ⟨by omega, (hl1 b hb).2⟩) (d1 := .int .i64 x.sort) (d2 := .int .i64 x.num) (d3 := .string x.text) (d4 := .slice na' x.names.length nc') (d5 := .slice ka' x.kids.length kc') (fun _ => hL1) (hr5.sub fun b hb => by have : w9.heap.size ≤ b := hb.1; exact ⟨by omega, hb.2⟩) hnm (by rw [HL.out]; exact hown7) hgrow hat
              rw [HL.out] at hst
              have b57 : Below (w0.heap.size + 1) X2 w7 := (((hbc.trans (b49.mono (by omega))).trans (b5.mono (by omega))).trans ((below_box w5 _).mono (by omega))).grown hgrow (by simp; omega) (fun k hk => by have := (HOC.out.own.lt k hk).1; omega)
              refine ⟨n + 1, some ⟨g, 0, none⟩, cap, ys ++ [.string nm, .int .i64 x.sort, .int .i64 x.num, .string x.text, .slice na' x.names.length nc', .slice ka' x.kids.length kc'], lab', by omega, by go_num, set_box3 nO7 _, hid_of ?_, b57.setCell (p := ⟨ob, 2, none⟩) (by show _ ≤ ob; omega) _, by rw [size_set]; omega⟩
              rw [HTK.out]; exact hst.set 2 _
          refine AllReadyH.cons rfl (fun K hK => ?_) AllReadyH.nil
          go_simp
          refine HCV.out.mono ?_
          rintro e w5 ⟨na', ka', nc', kc', rfl, hb5, hr5, lab1, hl1, hL1⟩
          have b5 : Below w9.heap.size w9 w5 := below_undrew hb5
          have z5 := b5.size
          have K5 := (b5.block _ (by omega)).trans K9
          have nO5 := (b5.block _ (by omega)).trans nO9
          obtain ⟨o25, -⟩ := box_at nO5 2 (by simp)
          have H5 := hid_of (And.intro hr5 (And.intro hl1 hL1))
          clear hr5 hl1 hL1 hb5
          refine hK.out _ _ (HS.out _ K5) (fun hHeld => ?_)
          clear hK K
          try simp only [Act.put, List.setIfInBounds_toArray, List.set_cons_zero, List.set_cons_succ]
          refine wpAnyH_take (i := 7) (v := ?_) rfl (by kernel_rfl) (by kernel_rfl) (by kernel_rfl) (fun _ _ _ h => h) (Or.inl ⟨by rfl, ?_⟩) hHeld ?_
          rotate_left
          · intro w' hSw
            (try dsimp only at hSw)
            go_simp
            try with_reducible rfl
          try simp only [Act.put, List.setIfInBounds_toArray, List.set_cons_zero, List.set_cons_succ]
          refine wpAnyH_ready (rs := [1, 8]) (by kernel_rfl) (by simp) ?_
          refine AllReadyH.cons rfl (fun K hK => ?_) ?_
          · go_simp
            refine hK.out _ _ hHeld (fun hHeld => ?_)
            clear hK K
            try simp only [Act.put, List.setIfInBounds_toArray, List.set_cons_zero, List.set_cons_succ]
            refine wpAnyH_ready (rs := [8]) (by kernel_rfl) (by simp) ?_
            refine AllReadyH.cons rfl (fun K hK => ?_) AllReadyH.nil
            go_simp
            have o2a : (w5.alloc (.cells #[.string nm, .int .i64 x.sort, .int .i64 x.num, .string x.text, .slice na' x.names.length nc', .slice ka' x.kids.length kc'] 109)).cell? ⟨ob, 2, none⟩ = some (.slice va n vc) := ((below_box w5 _).cell (p := ⟨ob, 2, none⟩) (by show ob < _; omega)).trans o25
            have K5a := ((below_box w5 (.cells #[.string nm, .int .i64 x.sort, .int .i64 x.num, .string x.text, .slice na' x.names.length nc', .slice ka' x.kids.length kc'] 109)).block _ (by omega)).trans K5
            refine hK.out _ _ (HS.out _ K5a) (fun hHeld => ?_)
            clear hK K
            try simp only [Act.put, List.setIfInBounds_toArray, List.set_cons_zero, List.set_cons_succ]
            refine wpAnyH_ready (rs := [9]) (by kernel_rfl) (by simp) ?_
            refine AllReadyH.cons rfl (fun K hK => ?_) AllReadyH.nil
            refine step_append_lies _ rfl (.tmp 28) (.tmp 35) 67 rfl (w0.heap.size + 1 + 1) 109 i1 (.agg #[.string ByteArray.empty, .int .i64 0, .int .i64 0, .string ByteArray.empty, .slice none 0 0, .slice none 0 0]) 6 96 Tryz.underlying67 hi' hz0' hz1' hz2' rfl (by decide) (.slice va n vc) n ys rfl (HOV.out _ ((b49.trans (b5.mono z49)).trans ((below_box w5 _).mono (by omega)))) ⟨w5.heap.size, 0, none⟩ 1 1 [.string nm, .int .i64 x.sort, .int .i64 x.num, .string x.text, .slice na' x.names.length nc', .slice ka' x.kids.length kc'] rfl rfl (World.news_of_block (heap_alloc_new w5 _)) (by intro u hu; simp at hu; rcases hu with rfl | rfl | rfl | rfl | rfl | rfl <;> rfl) (by omega) (by unfold maxLen; omega) (by omega) (by simp; omega) (w5.heap.size + 1) (by simp) ?_
            intro g cap w7 hown7 hgrow hat hlt7
            have z7 := hgrow.size
            simp at z7
            have nO7 := ((hgrow.block ob (by simp; omega) (fun e => HOC.out.apart e.symm)).trans ((below_box w5 _).block ob (by omega))).trans nO5
            have K7 := ((hgrow.block w4.heap.size (by simp; omega) (fun e => by have := (HOC.out.own.lt _ e.symm).2; omega)).trans ((below_box w5 _).block w4.heap.size (by omega))).trans K5
            obtain ⟨o27, of27⟩ := box_at nO7 2 (by simp)
            have H7 := hid_of (And.intro hown7 (And.intro hgrow (And.intro hat nO7)))
            clear hown7 hgrow hat nO7
            refine hK.out _ _ (HS.out _ K7) (fun hHeld => ?_)
            clear hK K
            try simp only [Act.put, List.setIfInBounds_toArray, List.set_cons_zero, List.set_cons_succ]
            refine wpAnyH_take (i := 10) (v := ?_) rfl (by kernel_rfl) (by kernel_rfl) (by kernel_rfl) (fun _ _ _ h => h) (Or.inl ⟨by rfl, ?_⟩) hHeld ?_
            rotate_left
            · intro w' hSw
              (try dsimp only at hSw)
              go_simp
              try with_reducible rfl
            try simp only [Act.put, List.setIfInBounds_toArray, List.set_cons_zero, List.set_cons_succ]
            refine wpAnyH_ready (rs := [11]) (by kernel_rfl) (by simp) ?_
            refine AllReadyH.cons rfl (fun K hK => ?_) AllReadyH.nil
            go_simp
            have K8 := (Below.heap_setCell w7 ⟨ob, 2, none⟩ (.slice (some ⟨g, 0, none⟩) (n + 1) cap) w4.heap.size (by show w4.heap.size ≠ ob; omega)).trans K7
            refine hK.out _ _ (HS.out _ K8) (fun hHeld => ?_)
            clear hK K
            try simp only [Act.put, List.setIfInBounds_toArray, List.set_cons_zero, List.set_cons_succ]
            refine wpAnyH_done (by kernel_rfl) ?_ _
            go_wp2_with fail
            go_roundw
            case measure => simp [intOf]; omega
            case rel =>
              obtain ⟨hown7, hgrow, hat, nO7⟩ := H7.out
              obtain ⟨hr5, hl1, hL1⟩ := H5.out
              have b45 : Below w4.heap.size w4 w5 := b49.trans (b5.mono z49)
              obtain ⟨lab', hst⟩ := HOC.out.step (c := ⟨nm, x⟩) (by omega) hob2 b45 (fun b hb => by have := hl1 b hb; have : w9.heap.size ≤ b := (hl1 b hb).1; exact ⟨by omega, (hl1 b hb).2⟩) (d1 := .int .i64 x.sort) (d2 := .int .i64 x.num) (d3 := .string x.text) (d4 := .slice na' x.names.length nc') (d5 := .slice ka' x.kids.length kc') (fun _ => hL1) (hr5.sub fun b hb => by have : w9.heap.size ≤ b := hb.1; exact ⟨by omega, hb.2⟩) hnm (by rw [HL.out]; exact hown7) hgrow hat
              rw [HL.out] at hst
              have b57 : Below (w0.heap.size + 1) X2 w7 := (((hbc.trans (b49.mono (by omega))).trans (b5.mono (by omega))).trans ((below_box w5 _).mono (by omega))).grown hgrow (by simp; omega) (fun k hk => by have := (HOC.out.own.lt k hk).1; omega)
              refine ⟨n + 1, some ⟨g, 0, none⟩, cap, ys ++ [.string nm, .int .i64 x.sort, .int .i64 x.num, .string x.text, .slice na' x.names.length nc', .slice ka' x.kids.length kc'], lab', by omega, by go_num, set_box3 nO7 _, hid_of ?_, b57.setCell (p := ⟨ob, 2, none⟩) (by show _ ≤ ob; omega) _, by rw [size_set]; omega⟩
              rw [HTK.out]; exact hst.set 2 _
          refine AllReadyH.cons rfl (fun K hK => ?_) AllReadyH.nil
          go_simp
          have o2a : (w5.alloc (.cells #[.string nm, .int .i64 x.sort, .int .i64 x.num, .string x.text, .slice na' x.names.length nc', .slice ka' x.kids.length kc'] 109)).cell? ⟨ob, 2, none⟩ = some (.slice va n vc) := ((below_box w5 _).cell (p := ⟨ob, 2, none⟩) (by show ob < _; omega)).trans o25
          have K5a := ((below_box w5 (.cells #[.string nm, .int .i64 x.sort, .int .i64 x.num, .string x.text, .slice na' x.names.length nc', .slice ka' x.kids.length kc'] 109)).block _ (by omega)).trans K5
          refine hK.out _ _ (HS.out _ K5a) (fun hHeld => ?_)
          clear hK K
          try simp only [Act.put, List.setIfInBounds_toArray, List.set_cons_zero, List.set_cons_succ]
          refine wpAnyH_ready (rs := [1]) (by kernel_rfl) (by simp) ?_
          refine AllReadyH.cons rfl (fun K hK => ?_) AllReadyH.nil
          go_simp
          refine hK.out _ _ hHeld (fun hHeld => ?_)
          clear hK K
          try simp only [Act.put, List.setIfInBounds_toArray, List.set_cons_zero, List.set_cons_succ]
          refine wpAnyH_ready (rs := [9]) (by kernel_rfl) (by simp) ?_
          refine AllReadyH.cons rfl (fun K hK => ?_) AllReadyH.nil
          refine step_append_lies _ rfl (.tmp 28) (.tmp 35) 67 rfl (w0.heap.size + 1 + 1) 109 i1 (.agg #[.string ByteArray.empty, .int .i64 0, .int .i64 0, .string ByteArray.empty, .slice none 0 0, .slice none 0 0]) 6 96 Tryz.underlying67 hi' hz0' hz1' hz2' rfl (by decide) (.slice va n vc) n ys rfl (HOV.out _ ((b49.trans (b5.mono z49)).trans ((below_box w5 _).mono (by omega)))) ⟨w5.heap.size, 0, none⟩ 1 1 [.string nm, .int .i64 x.sort, .int .i64 x.num, .string x.text, .slice na' x.names.length nc', .slice ka' x.kids.length kc'] rfl rfl (World.news_of_block (heap_alloc_new w5 _)) (by intro u hu; simp at hu; rcases hu with rfl | rfl | rfl | rfl | rfl | rfl <;> rfl) (by omega) (by unfold maxLen; omega) (by omega) (by simp; omega) (w5.heap.size + 1) (by simp) ?_
          intro g cap w7 hown7 hgrow hat hlt7
          have z7 := hgrow.size
          simp at z7
          have nO7 := ((hgrow.block ob (by simp; omega) (fun e => HOC.out.apart e.symm)).trans ((below_box w5 _).block ob (by omega))).trans nO5
          have K7 := ((hgrow.block w4.heap.size (by simp; omega) (fun e => by have := (HOC.out.own.lt _ e.symm).2; omega)).trans ((below_box w5 _).block w4.heap.size (by omega))).trans K5
          obtain ⟨o27, of27⟩ := box_at nO7 2 (by simp)
          have H7 := hid_of (And.intro hown7 (And.intro hgrow (And.intro hat nO7)))
          clear hown7 hgrow hat nO7
          refine hK.out _ _ (HS.out _ K7) (fun hHeld => ?_)
          clear hK K
          try simp only [Act.put, List.setIfInBounds_toArray, List.set_cons_zero, List.set_cons_succ]
          refine wpAnyH_take (i := 10) (v := ?_) rfl (by kernel_rfl) (by kernel_rfl) (by kernel_rfl) (fun _ _ _ h => h) (Or.inl ⟨by rfl, ?_⟩) hHeld ?_
          rotate_left
          · intro w' hSw
            (try dsimp only at hSw)
            go_simp
            try with_reducible rfl
          try simp only [Act.put, List.setIfInBounds_toArray, List.set_cons_zero, List.set_cons_succ]
          refine wpAnyH_ready (rs := [11]) (by kernel_rfl) (by simp) ?_
          refine AllReadyH.cons rfl (fun K hK => ?_) AllReadyH.nil
          go_simp
          have K8 := (Below.heap_setCell w7 ⟨ob, 2, none⟩ (.slice (some ⟨g, 0, none⟩) (n + 1) cap) w4.heap.size (by show w4.heap.size ≠ ob; omega)).trans K7
          refine hK.out _ _ (HS.out _ K8) (fun hHeld => ?_)
          clear hK K
          try simp only [Act.put, List.setIfInBounds_toArray, List.set_cons_zero, List.set_cons_succ]
          refine wpAnyH_done (by kernel_rfl) ?_ _
          go_wp2_with fail
          go_roundw
          case measure => simp [intOf]; omega
          case rel =>
            obtain ⟨hown7, hgrow, hat, nO7⟩ := H7.out
            obtain ⟨hr5, hl1, hL1⟩ := H5.out
            have b45 : Below w4.heap.size w4 w5 := b49.trans (b5.mono z49)
            obtain ⟨lab', hst⟩ := HOC.out.step (c := ⟨nm, x⟩) (by omega) hob2 b45 (fun b hb => by have := hl1 b hb; have : w9.heap.size ≤ b := (hl1 b hb).1; exact ⟨by omega, (hl1 b hb).2⟩) (d1 := .int .i64 x.sort) (d2 := .int .i64 x.num) (d3 := .string x.text) (d4 := .slice na' x.names.length nc') (d5 := .slice ka' x.kids.length kc') (fun _ => hL1) (hr5.sub fun b hb => by have : w9.heap.size ≤ b := hb.1; exact ⟨by omega, hb.2⟩) hnm (by rw [HL.out]; exact hown7) hgrow hat
            rw [HL.out] at hst
            have b57 : Below (w0.heap.size + 1) X2 w7 := (((hbc.trans (b49.mono (by omega))).trans (b5.mono (by omega))).trans ((below_box w5 _).mono (by omega))).grown hgrow (by simp; omega) (fun k hk => by have := (HOC.out.own.lt k hk).1; omega)
            refine ⟨n + 1, some ⟨g, 0, none⟩, cap, ys ++ [.string nm, .int .i64 x.sort, .int .i64 x.num, .string x.text, .slice na' x.names.length nc', .slice ka' x.kids.length kc'], lab', by omega, by go_num, set_box3 nO7 _, hid_of ?_, b57.setCell (p := ⟨ob, 2, none⟩) (by show _ ≤ ob; omega) _, by rw [size_set]; omega⟩
            rw [HTK.out]; exact hst.set 2 _
        · have e : n = r.cells.length := by omega
          subst e
          have hOC := HOC.out
          rw [List.take_length] at hOC
          obtain ⟨a', c', lab1, he, hc', hl1, hM⟩ := hOC.done
          simp only [Value.slice.injEq, true_and] at he
          obtain ⟨rfl, rfl⟩ := he
          have HM := hid_of (And.intro hl1 hM)
          obtain ⟨o0, -⟩ := box_at nO 0 (by simp)
          obtain ⟨o1, -⟩ := box_at nO 1 (by simp)
          obtain ⟨o2, -⟩ := box_at nO 2 (by simp)
          have b04 : Below w0.heap.size w0 w4 := bX.trans (hbc.mono (by omega))
          have bx := below_box w4 (.cells #[.string r.type, .int .i64 r.id, .slice va r.cells.length vc] 69)
          have K1 := block_new (w := w4) #[.string r.type, .int .i64 r.id, .slice va r.cells.length vc] 69 rfl
          have HOX := hid_of ((HO.out.keep b04).keep bx)
          have HLK := hid_of hlk
          clear hOC hl1 hM hlk
          go_wp2_with (at_builtin; refine wpList_append_lies _ rfl _ _ 35 rfl w.heap.size 69 i0 (.agg #[.string ByteArray.empty, .int .i64 0, .slice none 0 0]) 3 48 Tryz.underlying35 hi hz0 hz1 hz2 rfl (by decide) v k xs rfl ?own ⟨w4.heap.size, 0, none⟩ 1 1 [.string r.type, .int .i64 r.id, .slice va r.cells.length vc] rfl rfl ?c1 ?c2 (by omega) ?c3 (by omega) (by simp; omega) _ rfl ?_)
          case own => have h := HOX.out.own; rw [HLK.out] at h; exact h
          case c1 => exact World.news_of_block K1
          case c2 => intro u hu; simp at hu; rcases hu with rfl | rfl | rfl <;> rfl
          case c3 => unfold maxLen; omega
          intro g cap w5 hown5 hgrow hat hlt5
          have z5 := hgrow.size
          simp at z5
          have HG := hid_of (And.intro hown5 (And.intro hgrow hat))
          clear hown5 hgrow hat K1
          go_wp2_with fail
          go_roundw
          case measure => simp [intOf]; omega
          case rel =>
            obtain ⟨hown5, hgrow, hat⟩ := HG.out
            obtain ⟨lab', hput⟩ := HO.out.put (lab1 := lab1) (by omega) b04 (fun b hb => by have := HM.out.1 b hb; omega) (r := r) (ca := va) (cc := vc) hc' (by rw [HLK.out]; exact HM.out.2) (by rw [HLK.out]; exact hown5) hgrow (by simpa using hat)
            rw [HLK.out] at hput
            refine ⟨k + 1, _, xs ++ [.string r.type, .int .i64 r.id, .slice va r.cells.length vc], lab', by omega, by go_num, rfl, ?_, ?_⟩
            · rw [HTR.out]; exact hid_of hput
            · exact ((hbel.trans (b04.mono zb)).trans (bx.mono (by omega))).grown hgrow (by simp; omega) (fun k hk => (HOX.out.own.lt k hk).1)
    · have e : k = rs.length := by omega
      subst e
      have hO := HO.out
      rw [List.take_length] at hO
      have hd := hO.done h48 (fun k hk => ⟨by have := (hcl k hk).1; omega, by obtain ⟨ca, ccp, -, -, -, -, -, h⟩ := (HRR.out k hk).pieces; exact h⟩)
      have HD := hid_of hd
      clear hO hd
      go_wp2_with fail
      go_ret
      exact ⟨RowsMade.of HD.out, hbel⟩
end Go.Proofs.YtmemijccbmnaaaaGreat
