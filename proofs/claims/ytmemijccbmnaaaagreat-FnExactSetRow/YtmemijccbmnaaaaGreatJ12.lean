import Derived.Test.YtmemijccbmnaaaaGreatJ11
import Derived.Test.YtmemijccbmnaaaaGreatCopyS
import Derived.Test.YtmemijccbmnaaaaGreatJ1
import Derived.Deep.AppendLies
import Derived.Laws.AppendOwnNone
import Derived.Deep.RegionLaw
import Derived.Deep.RegionHeld3
import Derived.Deep.DeepCutAuto
import Derived.Test.YtmemijccbmnaaaaGreatJ10
import Derived.Deep.LoopGhost
namespace Go.Proofs.YtmemijccbmnaaaaGreat
set_option linter.unusedSimpArgs false
set_option linter.unusedVariables false
open Go.RowKit

/-- A cell whose value has been copied. -/
def DCe (lab : Nat → List Nat) (p : List Nat) (X : Nat → Ce) (w : World) (i : Nat) (c : Nat → Value) : Prop :=
  LCe lab p X w i c ∧ Rep w (fun b => ((i + 2) :: p) <:+ lab b) (X i).val (.agg #[c 1, c 2, c 3, c 4, c 5]) ∧ (X i).name.size ≤ maxLen
theorem suffix_ne {a : Nat} {p l : List Nat} (h : (a :: p) <:+ l) : l ≠ [] := fun e => by
  rw [e] at h
  have := h.length_le
  simp at this
theorem DCe.keep {lab lab' : Nat → List Nat} {p : List Nat} {X : Nat → Ce} {w w' : World} {i : Nat} {c : Nat → Value} (h : DCe lab p X w i c) (e : ∀ b, lab b ≠ [] → ((i + 2) :: p) <:+ lab b → lab' b = lab b ∧ w'.heap[b]? = w.heap[b]?) : DCe lab' p X w' i c :=
  ⟨⟨h.1.1, (h.1.2.keep fun b h1 h2 => (e b h1 h2).2).labels fun b h1 h2 => (e b h1 h2).1⟩, (h.2.1.mono fun b hb => (e b (suffix_ne hb) hb).2).sub fun b hb => by rw [(e b (suffix_ne hb) hb).1]; exact hb, h.2.2⟩
/-- Cells of which the first have been copied. -/
def MCells (w : World) (lab : Nat → List Nat) (p : List Nat) (P : Nat → Prop) (cs : List Ce) (d : Nat) (a : Option Addr) : Prop :=
  0 < cs.length → ∃ b off, a = some ⟨b, off, none⟩ ∧ lab b = 1 :: p ∧ (∀ i, w.frozen? ⟨b, i, none⟩ = false) ∧ GRow w 6 cs.length b off (fun w i c => if i < d then DCe lab p (cth cs) w i c else SCe P (cth cs) w i c)
theorem MCells.keep {w w' : World} {lab lab' : Nat → List Nat} {p : List Nat} {P : Nat → Prop} {cs : List Ce} {d : Nat} {a : Option Addr} (h : MCells w lab p P cs d a) (hl : ∀ b, lab b ≠ [] → p <:+ lab b → lab' b = lab b ∧ w'.heap[b]? = w.heap[b]?) (e : ∀ k, P k → w'.heap[k]? = w.heap[k]?) : MCells w' lab' p P cs d a := fun hn => by
  obtain ⟨b, off, h1, h2, h3, C, h4, h5⟩ := h hn
  obtain ⟨hb1, hb⟩ := hl b (by rw [h2]; simp) (by rw [h2]; exact List.suffix_cons _ _)
  refine ⟨b, off, h1, hb1.trans h2, fun i => (World.frozen?_of_block (w := w) (a := ⟨b, i, none⟩) hb).trans (h3 i), C, fun i hi j hj => (World.cell?_of_block (w := w) (a := ⟨b, off + i * 6 + j, none⟩) hb).trans (h4 i hi j hj), fun i hi => ?_⟩
  have := h5 i hi
  by_cases hd : i < d
  · simp only [if_pos hd] at this ⊢
    exact this.keep fun b' k1 k2 => hl b' k1 (suffix_cons k2)
  · simp only [if_neg hd] at this ⊢
    exact this.keep e
theorem MCells.congr {w : World} {lab : Nat → List Nat} {p : List Nat} {P : Nat → Prop} {cs : List Ce} {d d' : Nat} {a : Option Addr} (h : MCells w lab p P cs d a) (e : d = d') : MCells w lab p P cs d' a := e ▸ h
/-- One more has been copied. -/
theorem MCells.put {w1 : World} {lab : Nat → List Nat} {p : List Nat} {P : Nat → Prop} {cs : List Ce} {j b off : Nat} (h : MCells w1 lab p P cs j (some ⟨b, off, none⟩)) (hj : j < cs.length) {d0 d1 d2 d3 d4 : Value}
    (hL : LRep w1 lab ((j + 2) :: p) (cth cs j).val (.agg #[d0, d1, d2, d3, d4])) (hR : Rep w1 (fun b => ((j + 2) :: p) <:+ lab b) (cth cs j).val (.agg #[d0, d1, d2, d3, d4])) (hP : ∀ k, P k → k ≠ b) :
    MCells (put5 w1 b (off + j * 6 + 1) d0 d1 d2 d3 d4) lab p P cs (j + 1) (some ⟨b, off, none⟩) := fun hn => by
  obtain ⟨b', off', h1, h2, h3, C, h4, h5⟩ := h hn
  simp only [Option.some.injEq, Addr.mk.injEq, and_true] at h1
  obtain ⟨rfl, rfl⟩ := h1
  have hoth : ∀ m, ¬ (off + j * 6 + 1 ≤ m ∧ m < off + j * 6 + 6) → (put5 w1 b (off + j * 6 + 1) d0 d1 d2 d3 d4).cell? ⟨b, m, none⟩ = w1.cell? ⟨b, m, none⟩ := fun m hm => by
    unfold put5
    rw [World.cell?_setCell_other _ _ _ _ (by intro e; simp only [Addr.mk.injEq, and_true, true_and] at e; omega), World.cell?_setCell_other _ _ _ _ (by intro e; simp only [Addr.mk.injEq, and_true, true_and] at e; omega), World.cell?_setCell_other _ _ _ _ (by intro e; simp only [Addr.mk.injEq, and_true, true_and] at e; omega), World.cell?_setCell_other _ _ _ _ (by intro e; simp only [Addr.mk.injEq, and_true, true_and] at e; omega), World.cell?_setCell_other _ _ _ _ (by intro e; simp only [Addr.mk.injEq, and_true, true_and] at e; omega)]
  have q : ∀ m, m < 6 → w1.cell? ⟨b, off + j * 6 + m, none⟩ = some (C j m) := fun m hm => h4 j hj m hm
  have hS : Sx6 (put5 w1 b (off + j * 6 + 1) d0 d1 d2 d3 d4) b (off + j * 6) (C j 0) d0 d1 d2 d3 d4 := by
    have s0 : Sx6 w1 b (off + j * 6) (C j 0) (C j 1) (C j 2) (C j 3) (C j 4) (C j 5) := ⟨q 0 (by omega), q 1 (by omega), q 2 (by omega), q 3 (by omega), q 4 (by omega), q 5 (by omega)⟩
    have s1 := ((s0.set1 d0).set2 d1).set3 d2
    obtain ⟨a0, a1, a2, a3, a4, a5⟩ := s1
    refine ⟨set_other (set_other a0 (by omega)) (by omega), set_other (set_other a1 (by omega)) (by omega), set_other (set_other a2 (by omega)) (by omega), set_other (set_other a3 (by omega)) (by omega), set_other (World.cell?_setCell_same _ _ _ a4) (by omega), World.cell?_setCell_same _ _ _ (set_other a5 (by omega))⟩
  have hblk := put5_block w1 b (off + j * 6 + 1) d0 d1 d2 d3 d4
  refine ⟨b, off, rfl, h2, fun i => by have := h3 i; simpa [put5] using this, fun i m => if i = j then [C j 0, d0, d1, d2, d3, d4].getD m undef else C i m, fun i hi m hm => ?_, fun i hi => ?_⟩
  · show _ = some (if i = j then [C j 0, d0, d1, d2, d3, d4].getD m undef else C i m)
    by_cases e : i = j
    · subst e
      rw [if_pos rfl]
      obtain ⟨a0, a1, a2, a3, a4, a5⟩ := hS
      have : m = 0 ∨ m = 1 ∨ m = 2 ∨ m = 3 ∨ m = 4 ∨ m = 5 := by omega
      rcases this with rfl | rfl | rfl | rfl | rfl | rfl
      · exact a0
      · exact a1
      · exact a2
      · exact a3
      · exact a4
      · exact a5
    · rw [if_neg e, hoth _ (by omega)]
      exact h4 i hi m hm
  · have h5i := h5 i hi
    by_cases e : i = j
    · subst e
      simp only [Nat.lt_irrefl, if_false] at h5i
      simp only [if_pos (Nat.lt_succ_self i)]
      refine ⟨⟨h5i.1, ?_⟩, ?_, h5i.2.2⟩
      · exact hL.keep fun c k1 k2 => hblk c (fun e => lab_own h2 (e ▸ k2))
      · exact hR.mono fun c k2 => hblk c (fun e => lab_own h2 (e ▸ k2))
    · have e' : (fun m => if i = j then [C j 0, d0, d1, d2, d3, d4].getD m undef else C i m) = C i := by funext m; simp [e]
      show if i < j + 1 then DCe lab p (cth cs) _ i (fun m => if i = j then [C j 0, d0, d1, d2, d3, d4].getD m undef else C i m) else SCe P (cth cs) _ i (fun m => if i = j then [C j 0, d0, d1, d2, d3, d4].getD m undef else C i m)
      rw [e']
      by_cases e2 : i < j
      · simp only [if_pos e2] at h5i
        rw [if_pos (by omega)]
        exact h5i.keep fun c k1 k2 => ⟨rfl, hblk c (fun e => lab_own h2 (e ▸ k2))⟩
      · simp only [if_neg e2] at h5i
        rw [if_neg (by omega)]
        exact h5i.keep fun k hk => hblk k (hP k hk)

/-- Where the copying of rows stands: before the value j of row i. -/
structure Cst (w wr : World) (P : Nat → Prop) (rl : List Ro) (b0 g m : Nat) (A : Nat → Option Addr) (K : Nat → Nat) (lab : Nat → List Nat) (i j : Nat) : Prop where
  bel : Below w.heap.size w wr
  way : ∀ b, lab b ≠ [] → w.heap.size ≤ b ∧ b < wr.heap.size ∧ b ≠ g ∧ b ≠ m
  base : 0 < rl.length → lab b0 = [1] ∧ ∀ i, wr.frozen? ⟨b0, i, none⟩ = false
  rowc : ∀ k, k < rl.length → Sx3 wr b0 (k * 3) (.string (rth rl k).type) (.int .i64 (rth rl k).id) (.slice (A k) (rth rl k).cells.length (K k))
  cells : ∀ k, k < rl.length → MCells wr lab [k + 2] P (rth rl k).cells (if k < i then (rth rl k).cells.length else if k = i then j else 0) (A k)
/-- A box more. -/
theorem Cst.keep {w wr w' : World} {P : Nat → Prop} {rl : List Ro} {b0 g m : Nat} {A : Nat → Option Addr} {K : Nat → Nat} {lab : Nat → List Nat} {i j : Nat} (h : Cst w wr P rl b0 g m A K lab i j) (hb : Below wr.heap.size wr w') (hP : ∀ k, P k → k < w.heap.size) : Cst w w' P rl b0 g m A K lab i j := by
  have hz := hb.size
  have hlt : 0 < rl.length → b0 < wr.heap.size := fun h0 => (h.way b0 (by rw [(h.base h0).1]; simp)).2.1
  refine ⟨h.bel.trans (hb.mono h.bel.size), fun b hb' => ?_, fun h0 => ⟨(h.base h0).1, fun i => (World.frozen?_of_block (w := wr) (a := ⟨b0, i, none⟩) (hb.block b0 (hlt h0))).trans ((h.base h0).2 i)⟩, fun k hk => (h.rowc k hk).keep (hb.block b0 (hlt (by omega))), fun k hk => (h.cells k hk).keep (fun b h1 _ => ⟨rfl, hb.block b (h.way b h1).2.1⟩) (fun k hk => hb.block k (by have := hP k hk; have := h.bel.size; omega))⟩
  obtain ⟨a1, a2, a3⟩ := h.way b hb'
  exact ⟨a1, by omega, a3⟩
/-- A value has been copied and laid down. -/
theorem Cst.step {w wr w1 : World} {P : Nat → Prop} {rl : List Ro} {b0 g m : Nat} {A : Nat → Option Addr} {K : Nat → Nat} {lab : Nat → List Nat} {i j b off : Nat} (h : Cst w wr P rl b0 g m A K lab i j) (hi : i < rl.length) (hj : j < (rth rl i).cells.length) (hA : A i = some ⟨b, off, none⟩)
    (hP : ∀ k, P k → k < w.heap.size) (hg : w.heap.size ≤ g) (hm : w.heap.size ≤ m) (hgz : g < wr.heap.size) (hmz : m < wr.heap.size) (has : Aside (fun b => b = g ∨ b = m) wr w1) {lab1 : Nat → List Nat} (hl1 : ∀ b, lab1 b ≠ [] → wr.heap.size ≤ b ∧ b < w1.heap.size) {d0 d1 d2 d3 d4 : Value}
    (hL : LRep w1 lab1 [] (cth (rth rl i).cells j).val (.agg #[d0, d1, d2, d3, d4])) (hR : Rep w1 (fun b => wr.heap.size ≤ b ∧ b < w1.heap.size) (cth (rth rl i).cells j).val (.agg #[d0, d1, d2, d3, d4])) :
    ∃ lab', Cst w (put5 w1 b (off + j * 6 + 1) d0 d1 d2 d3 d4) P rl b0 g m A K lab' i (j + 1) := by
  have hz := has.size
  have hwz := h.bel.size
  have h0 : 0 < rl.length := by omega
  have hb0 := (h.base h0).1
  have hb0w := h.way b0 (by rw [hb0]; simp)
  obtain ⟨lab', hlab'⟩ : ∃ lab' : Nat → List Nat, lab' = fun b => if wr.heap.size ≤ b ∧ b < w1.heap.size then lab1 b ++ [j + 2, i + 2] else lab b := ⟨_, rfl⟩
  have hin : ∀ b, wr.heap.size ≤ b ∧ b < w1.heap.size → lab' b = lab1 b ++ [j + 2, i + 2] := fun b hb => by rw [hlab']; exact if_pos hb
  have hout : ∀ b, ¬ (wr.heap.size ≤ b ∧ b < w1.heap.size) → lab' b = lab b := fun b hb => by rw [hlab']; exact if_neg hb
  have hold : ∀ c, lab c ≠ [] → lab' c = lab c ∧ w1.heap[c]? = wr.heap[c]? := fun c hc => by
    obtain ⟨a1, a2, a3, a4⟩ := h.way c hc
    exact ⟨hout c (by omega), has.block c a2 (fun h => h.elim a3 a4)⟩
  have hPk : ∀ k, P k → w1.heap[k]? = wr.heap[k]? := fun k hk => has.block k (by have := hP k hk; omega) (by have := hP k hk; omega)
  have hMi := h.cells i hi
  rw [hA] at hMi
  rw [if_neg (Nat.lt_irrefl i), if_pos rfl] at hMi
  have hbl : lab b = [1, i + 2] := by
    obtain ⟨b', off', e1, e2, -⟩ := hMi (by omega)
    simp only [Option.some.injEq, Addr.mk.injEq, and_true] at e1
    rw [e1.1]; exact e2
  have hbw := h.way b (by rw [hbl]; simp)
  have hbb0 : b0 ≠ b := fun e => by rw [e, hbl] at hb0; simp at hb0
  have hblk := put5_block w1 b (off + j * 6 + 1) d0 d1 d2 d3 d4
  have hpz := put5_size w1 b (off + j * 6 + 1) d0 d1 d2 d3 d4
  have bel1 : Below w.heap.size w w1 := ⟨has.os.trans h.bel.os, has.tape.trans h.bel.tape, has.output.trans h.bel.output, by omega, fun k hk => (has.block k (by omega) (by omega)).trans (h.bel.block k hk)⟩
  have hbl0 : (put5 w1 b (off + j * 6 + 1) d0 d1 d2 d3 d4).heap[b0]? = wr.heap[b0]? := (hblk b0 hbb0).trans (hold b0 (by rw [hb0]; simp)).2
  refine ⟨lab', put5_below bel1 hbw.1 _ _ _ _ _ _, fun c hc => ?_, fun _ => ⟨(hold b0 (by rw [hb0]; simp)).1.trans hb0, fun i => (World.frozen?_of_block (w := wr) (a := ⟨b0, i, none⟩) hbl0).trans ((h.base h0).2 i)⟩, fun k hk => (h.rowc k hk).keep hbl0, fun k hk => ?_⟩
  · rw [hpz]
    by_cases e : wr.heap.size ≤ c ∧ c < w1.heap.size
    · exact ⟨by omega, by omega, by omega, by omega⟩
    · rw [hout c e] at hc
      obtain ⟨a1, a2, a3⟩ := h.way c hc
      exact ⟨a1, by omega, a3⟩
  · by_cases e : k = i
    · subst e
      rw [if_neg (Nat.lt_irrefl k), if_pos rfl, hA]
      have h1 : MCells w1 lab' [k + 2] P (rth rl k).cells j (some ⟨b, off, none⟩) := hMi.keep (fun c k1 _ => hold c k1) hPk
      refine h1.put hj ?_ ?_ (fun k' hk' => by have := hP k' hk'; omega)
      · have := hL.relabel (lab' := lab') (q := [j + 2, k + 2]) (fun c hc => hin c (hl1 c hc))
        exact this
      · exact hR.sub fun c hc => by rw [hin c hc]; exact List.suffix_append _ _
    · have hk' := h.cells k hk
      have hd : (if k < i then (rth rl k).cells.length else if k = i then j + 1 else 0) = (if k < i then (rth rl k).cells.length else if k = i then j else 0) := by rw [if_neg e, if_neg e]
      rw [hd]
      refine hk'.keep (fun c k1 k2 => ⟨(hold c k1).1, (hblk c (fun ec => ?_)).trans (hold c k1).2⟩) (fun k' hk' => (hblk k' (by have := hP k' hk'; omega)).trans (hPk k' hk'))
      rw [ec, hbl] at k2
      have := k2.length_le
      have h2 := List.suffix_of_suffix_length_le k2 (List.suffix_cons 1 [i + 2]) (by simp)
      have h3 := h2.eq_of_length (by simp)
      simp at h3
      omega

/-- All has been copied. -/
theorem Cst.done {w wr : World} {P : Nat → Prop} {rl : List Ro} {b0 g m : Nat} {A : Nat → Option Addr} {K : Nat → Nat} {lab : Nat → List Nat} (h : Cst w wr P rl b0 g m A K lab rl.length 0) (a : Option Addr) (ha : 0 < rl.length → a = some ⟨b0, 0, none⟩) (hK : ∀ k, k < rl.length → (rth rl k).cells.length ≤ K k) (hlen : 48 * rl.length ≤ 281474976710656) (hcl : ∀ k, k < rl.length → 96 * (rth rl k).cells.length ≤ 281474976710656 ∧ (rth rl k).type.size ≤ maxLen) :
    LRows wr lab [] rl a ∧ RoReps wr (fun b => w.heap.size ≤ b ∧ b < wr.heap.size) rl a := by
  have hcd : ∀ k, k < rl.length → MCells wr lab [k + 2] P (rth rl k).cells (rth rl k).cells.length (A k) := fun k hk => (h.cells k hk).congr (if_pos hk)
  have hrow : ∀ k, k < rl.length → ∀ mm, mm < 3 → wr.cell? ⟨b0, 0 + k * 3 + mm, none⟩ = some ([Value.string (rth rl k).type, .int .i64 (rth rl k).id, .slice (A k) (rth rl k).cells.length (K k)].getD mm undef) := fun k hk mm hmm => by
    obtain ⟨r0, r1, r2⟩ := h.rowc k hk
    rw [Nat.zero_add]
    have : mm = 0 ∨ mm = 1 ∨ mm = 2 := by omega
    rcases this with rfl | rfl | rfl
    · exact r0
    · exact r1
    · exact r2
  refine ⟨fun h0 => ⟨b0, 0, ha h0, (h.base h0).1, (h.base h0).2, fun k mm => [Value.string (rth rl k).type, .int .i64 (rth rl k).id, .slice (A k) (rth rl k).cells.length (K k)].getD mm undef, hrow, fun k hk => ⟨rfl, rfl, A k, K k, rfl, fun h1 => ?_⟩⟩, hlen, fun k mm => [Value.string (rth rl k).type, .int .i64 (rth rl k).id, .slice (A k) (rth rl k).cells.length (K k)].getD mm undef, fun h0 => ⟨b0, 0, ha h0, ?_, hrow⟩, fun k hk => ⟨A k, K k, rfl, ⟨(hcl k hk).1, ?_⟩, hK k hk, (hcl k hk).2⟩⟩
  · obtain ⟨b, off, e1, e2, e3, e4⟩ := hcd k hk h1
    exact ⟨b, off, e1, e2, e3, (GRow.done e4).congr fun i c _ hE => hE.1⟩
  · have := h.way b0 (by rw [(h.base h0).1]; simp)
    exact ⟨this.1, this.2.1⟩
  · by_cases h1 : 0 < (rth rl k).cells.length
    · obtain ⟨b, off, e1, e2, e3, e4⟩ := hcd k hk h1
      obtain ⟨C, c1, c2⟩ := GRow.done e4
      refine ⟨C, fun _ => ⟨b, off, e1, ?_, c1⟩, fun i hi => ?_⟩
      · have := h.way b (by rw [e2]; simp)
        exact ⟨this.1, this.2.1⟩
      · obtain ⟨q1, q2, q3⟩ := c2 i hi
        exact ⟨_, _, _, _, _, by rw [q1.1], q2.sub fun b hb => by have := h.way b (suffix_ne hb); exact ⟨this.1, this.2.1⟩, q3⟩
    · exact ⟨fun _ _ => undef, fun h2 => absurd h2 h1, fun i hi => by omega⟩
end Go.Proofs.YtmemijccbmnaaaaGreat

namespace Go.Proofs.YtmemijccbmnaaaaGreat
set_option linter.unusedSimpArgs false
set_option linter.unusedVariables false
open Go.RowKit

/-- Five cells of a block. -/
def Five (w : World) (N : Nat) (c0 c1 c2 c3 c4 : Value) : Prop :=
  w.cell? ⟨N, 0, none⟩ = some c0 ∧ w.cell? ⟨N, 1, none⟩ = some c1 ∧ w.cell? ⟨N, 2, none⟩ = some c2 ∧ w.cell? ⟨N, 3, none⟩ = some c3 ∧ w.cell? ⟨N, 4, none⟩ = some c4
theorem Five.new (w : World) (c0 c1 c2 c3 c4 : Value) (T : TypeId) : Five (w.alloc (.cells #[c0, c1, c2, c3, c4] T)) w.heap.size c0 c1 c2 c3 c4 := by
  simp [Five]
theorem Five.keep {w w' : World} {N : Nat} {c0 c1 c2 c3 c4 : Value} (h : Five w N c0 c1 c2 c3 c4) (hb : Below w.heap.size w w') (hN : N < w.heap.size) : Five w' N c0 c1 c2 c3 c4 :=
  ⟨(hb.cell (p := ⟨N, 0, none⟩) hN).trans h.1, (hb.cell (p := ⟨N, 1, none⟩) hN).trans h.2.1, (hb.cell (p := ⟨N, 2, none⟩) hN).trans h.2.2.1, (hb.cell (p := ⟨N, 3, none⟩) hN).trans h.2.2.2.1, (hb.cell (p := ⟨N, 4, none⟩) hN).trans h.2.2.2.2⟩

end Go.Proofs.YtmemijccbmnaaaaGreat

namespace Go.Proofs.YtmemijccbmnaaaaGreat
set_option linter.unusedSimpArgs false
set_option linter.unusedVariables false
open Go.RowKit

theorem strs_owned {w : World} {base : Nat} {ns : List ByteArray} {g cap : Nat} (h : w.ownsRow base 9 1 (.slice (some ⟨g, 0, none⟩) ns.length cap) ns.length (ns.map Value.string)) (h2 : ∀ i, (nth ns i).size ≤ maxLen) (h3 : ns.length ≤ maxLen) (hlt : g < w.heap.size) :
    Strs w (fun b => base ≤ b ∧ b < w.heap.size) ns (some ⟨g, 0, none⟩) ∧ ns.length ≤ cap := by
  have hb : base ≤ g ∧ ns.length ≤ cap := by
    rcases h.2 with ⟨h', _⟩ | ⟨g', cap', cur, h', hb, _, hn, _⟩
    · simp at h'
    · simp only [Value.slice.injEq, Option.some.injEq, Addr.mk.injEq, and_true, true_and] at h'
      obtain ⟨rfl, rfl⟩ := h'
      exact ⟨hb, hn⟩
  refine ⟨⟨fun _ => ⟨g, 0, rfl, ⟨hb.1, hlt⟩, fun i hi => ?_⟩, h2, h3⟩, hb.2⟩
  have := h.cellAt i (by omega)
  rw [Nat.zero_add, this, List.getElem?_map]
  simp [nth, List.getD_eq_getElem?_getD, hi]

set_option maxHeartbeats 400000 in
theorem copyTexts_any (ns : List ByteArray) (a : Option Addr) (c : Nat) (w : World) (P : Nat → Prop) (hS : Strs w P ns a) (hb : 16 * ns.length ≤ 140737488355328) :
    Calls Tryz.prog 92 #[.slice a ns.length c] w fun e w' => ∃ (a' : Option Addr) (c' : Nat), e = .returned (.slice a' ns.length c') ∧ ns.length ≤ c' ∧ Below w.heap.size w w' ∧ Strs w' (fun b => w.heap.size ≤ b ∧ b < w'.heap.size) ns a' ∧ ∀ b o, a' = some ⟨b, o, none⟩ → (w.heap.size ≤ b ∧ b < w'.heap.size) ∧ ∀ i, w'.frozen? ⟨b, i, none⟩ = false := by
  obtain ⟨h1, h2, h3⟩ := hS
  obtain ⟨i0, hi, hz0, hz1, hz2⟩ := info_parts info9
  by_cases hn0 : ns.length = 0
  · have hns : ns = [] := by simpa using hn0
    subst hns
    cases a with
    | none =>
      go_enter Tryz.func92, Tryz.ntmps92
      go_wp2_with fail
      go_ret
      exact ⟨none, 0, rfl, by simp, Below.refl _ _, ⟨fun h => absurd rfl h, h2, h3⟩, fun b o h => by cases h⟩
    | some ad =>
      go_enter Tryz.func92, Tryz.ntmps92
      go_wp2_with fail
      go_ret
      exact ⟨none, 0, rfl, by simp, Below.refl _ _, ⟨fun h => absurd rfl h, h2, h3⟩, fun b o h => by cases h⟩
  · obtain ⟨b, off, rfl, _, hc⟩ := h1 (by intro e; simp [e] at hn0)
    clear h1
    go_enter Tryz.func92, Tryz.ntmps92
    go_wp2_with (at_builtin; refine wpList_append_lies _ rfl _ _ 26 rfl w.heap.size 9 i0 (.string ByteArray.empty) 1 16 Tryz.underlying26 hi hz0 hz1 hz2 rfl (by decide) (.slice none 0 0) 0 [] rfl (World.ownsRow_nil _ _ _ _) ⟨b, off, none⟩ ns.length c (ns.map Value.string) rfl (by simp) ?c1 ?c2 (by omega) ?c3 (by omega) (Nat.le_refl _) _ rfl ?_)
    case c1 =>
      intro j u hj
      obtain ⟨hj', rfl⟩ := nth_map ns j u hj
      rw [Addr.add_lit]
      exact hc j hj'
    case c2 => intro u hu; simp at hu; obtain ⟨x, -, rfl⟩ := hu; rfl
    case c3 => omega
    intro g cap w1 hown hgrow hat hlt
    go_wp2_with fail
    go_ret
    have hS := strs_owned (base := w.heap.size) (by simpa using hown) h2 h3 hlt
    exact ⟨_, cap, by simp, hS.2, below_grown (Below.refl _ _) hgrow (Nat.le_refl _), hS.1, fun b o h => by cases h; exact ⟨hown.lt g rfl, fun i => hown.frozenAt i⟩⟩
end Go.Proofs.YtmemijccbmnaaaaGreat

namespace Go.Proofs.YtmemijccbmnaaaaGreat
set_option linter.unusedSimpArgs false
set_option linter.unusedVariables false
open Go.RowKit

/-- A value that goes no deeper than so many levels, of at most 2097152 parts, its lists no longer than that. -/
def fit : Nat → V → Prop
  | 0, _ => False
  | f + 1, x => x.kids.length ≤ 2097152 ∧ (x.names.length ≤ 2097152 ∧ cntV x ≤ 2097152) ∧ ∀ i, i < x.kids.length → fit f (kth x.kids i)
/-- A block of one value. -/
def Row5 (w : World) (b : Nat) (c0 c1 c2 c3 c4 : Value) : Prop := w.rowIs b 45 5 (fun i => if i = 0 then c0 else if i = 1 then c1 else if i = 2 then c2 else if i = 3 then c3 else c4)
theorem Row5.five {w : World} {b : Nat} {c0 c1 c2 c3 c4 : Value} (h : Row5 w b c0 c1 c2 c3 c4) : Five w b c0 c1 c2 c3 c4 :=
  ⟨h.cell (i := 0) (by omega), h.cell (i := 1) (by omega), h.cell (i := 2) (by omega), h.cell (i := 3) (by omega), h.cell (i := 4) (by omega)⟩
theorem Row5.frozen {w : World} {b : Nat} {c0 c1 c2 c3 c4 : Value} (h : Row5 w b c0 c1 c2 c3 c4) : ∀ i, w.frozen? ⟨b, i, none⟩ = false := fun i => World.rowIs.frozen h i
theorem Row5.lt {w : World} {b : Nat} {c0 c1 c2 c3 c4 : Value} (h : Row5 w b c0 c1 c2 c3 c4) : b < w.heap.size := World.rowIs.lt h
theorem Row5.of_block {w w' : World} {b : Nat} {c0 c1 c2 c3 c4 : Value} (h : Row5 w b c0 c1 c2 c3 c4) (e : w'.heap[b]? = w.heap[b]?) : Row5 w' b c0 c1 c2 c3 c4 := World.rowIs.of_block h e
theorem Row5.new (w : World) (c0 c1 c2 c3 c4 : Value) : Row5 (w.alloc (.cells #[c0, c1, c2, c3, c4] 45)) w.heap.size c0 c1 c2 c3 c4 :=
  World.rowIs_alloc w #[c0, c1, c2, c3, c4] 45 _ fun i hi => by
    have : i = 0 ∨ i = 1 ∨ i = 2 ∨ i = 3 ∨ i = 4 := by simp at hi; omega
    rcases this with rfl | rfl | rfl | rfl | rfl <;> rfl
theorem Row5.put {w : World} {b : Nat} {c0 c1 c2 c3 c4 : Value} (h : Row5 w b c0 c1 c2 c3 c4) (d0 d1 d2 d3 d4 : Value) : Row5 (put5 w b 0 d0 d1 d2 d3 d4) b d0 d1 d2 d3 d4 := by
  obtain ⟨G, hG, ⟨g0, g1, g2, g3, g4⟩, -⟩ := put5_row h 0 d0 d1 d2 d3 d4
  refine World.rowIs.congr hG fun i hi => ?_
  have : i = 0 ∨ i = 1 ∨ i = 2 ∨ i = 3 ∨ i = 4 := by omega
  rcases this with rfl | rfl | rfl | rfl | rfl
  · rw [if_pos rfl]; exact g0
  · simpa using g1
  · simpa using g2
  · simpa using g3
  · simpa using g4
theorem Row5.set4 {w : World} {b : Nat} {c0 c1 c2 c3 c4 : Value} (h : Row5 w b c0 c1 c2 c3 c4) (d : Value) : Row5 (w.setCell ⟨b, 4, none⟩ d) b c0 c1 c2 c3 d := by
  refine World.rowIs.congr (World.rowIs.set h 4 d) fun i hi => ?_
  have : i = 0 ∨ i = 1 ∨ i = 2 ∨ i = 3 ∨ i = 4 := by omega
  rcases this with rfl | rfl | rfl | rfl | rfl <;> simp

/-- What is gathered so far: a row of values of the call's own, each in memory of its own. -/
def OwnKids (w : World) (lo ob : Nat) (ks : List V) (k : Nat) (v : Value) (xs : List Value) : Prop :=
  w.ownsRow lo 45 5 v k xs ∧ v.ownBlock ≠ some ob ∧ ∀ i, i < k → Rep w (fun b => lo ≤ b ∧ b < w.heap.size ∧ b ≠ ob ∧ v.ownBlock ≠ some b) (kth ks i) (.agg #[xs.getD (i * 5) undef, xs.getD (i * 5 + 1) undef, xs.getD (i * 5 + 2) undef, xs.getD (i * 5 + 3) undef, xs.getD (i * 5 + 4) undef])

theorem OwnKids.nil (w : World) (lo ob : Nat) (ks : List V) : OwnKids w lo ob ks 0 (.slice none 0 0) [] := ⟨World.ownsRow_nil _ _ _ _, by simp [Value.ownBlock], fun i hi => by omega⟩

theorem OwnKids.step {wr w1 w3 : World} {lo ob : Nat} {ks : List V} {k : Nat} {v : Value} {xs : List Value} (h : OwnKids wr lo ob ks k v xs) (hlo : lo ≤ wr.heap.size) (hob : ob < wr.heap.size) (hb1 : Below wr.heap.size wr w1) {d0 d1 d2 d3 d4 : Value}
    (hrep : Rep w1 (fun b => wr.heap.size ≤ b ∧ b < w1.heap.size) (kth ks k) (.agg #[d0, d1, d2, d3, d4])) {o : Obj} {g cap : Nat}
    (hown : w3.ownsRow lo 45 5 (.slice (some ⟨g, 0, none⟩) (k + 1) cap) (k + 1) (xs ++ [d0, d1, d2, d3, d4])) (hgrow : (w1.alloc o).grownBy w3 v.ownBlock) (hat : v.ownBlock = some g ∨ g = w1.heap.size + 1) :
    OwnKids w3 lo ob ks (k + 1) (.slice (some ⟨g, 0, none⟩) (k + 1) cap) (xs ++ [d0, d1, d2, d3, d4]) ∧ (∀ b, b < wr.heap.size → v.ownBlock ≠ some b → w3.heap[b]? = wr.heap[b]?) ∧ w1.heap.size < w3.heap.size ∧ Below lo wr w3 := by
  have z1 := hb1.size
  have z3 := hgrow.size
  simp at z3
  have hgl : ∀ b, v.ownBlock = some b → b < wr.heap.size := fun b hb => (h.1.lt b hb).2
  have hsame : ∀ b, b < w1.heap.size → v.ownBlock ≠ some b → w3.heap[b]? = w1.heap[b]? := fun b hb hne => by
    rw [hgrow.block b (by simp; omega) (fun e => hne e.symm)]
    exact World.grownBy_alloc w1 o none |>.block b hb (by simp)
  have hxl := h.1.1
  refine ⟨⟨hown, ?_, fun i hi => ?_⟩, fun b hb hne => (hsame b (by omega) hne).trans (hb1.block b hb), by omega, hgrow.os.trans hb1.os, hgrow.tape.trans hb1.tape, hgrow.output.trans hb1.output, by omega, fun b hb => (hsame b (by omega) fun e => ?_).trans (hb1.block b (by omega))⟩
  · intro e
    have e' : g = ob := by simpa [Value.ownBlock] using e
    rcases hat with h1 | h1
    · exact h.2.1 (by rw [h1, e'])
    · omega
  · by_cases e : i = k
    · subst e
      have hg : ∀ j, (xs ++ [d0, d1, d2, d3, d4]).getD (i * 5 + j) undef = [d0, d1, d2, d3, d4].getD j undef := fun j => by
        rw [List.getD_eq_getElem?_getD, List.getElem?_append_right (by omega), List.getD_eq_getElem?_getD, hxl, show i * 5 + j - i * 5 = j by omega]
      have g0 := hg 0
      rw [Nat.add_zero] at g0
      rw [g0, hg 1, hg 2, hg 3, hg 4]
      refine (hrep.mono fun b hb => hsame b hb.2 fun e => ?_).sub fun b hb => ⟨by omega, by omega, by omega, fun e => ?_⟩
      · have := hgl b e; omega
      · have e' : g = b := by simpa [Value.ownBlock] using e
        rcases hat with h1 | h1
        · have := hgl g h1; omega
        · omega
    · have hik : i < k := by omega
      have hg : ∀ j, j < 5 → (xs ++ [d0, d1, d2, d3, d4]).getD (i * 5 + j) undef = xs.getD (i * 5 + j) undef := fun j hj => by
        rw [List.getD_eq_getElem?_getD, List.getElem?_append_left (by omega), List.getD_eq_getElem?_getD]
      have g0 := hg 0 (by omega)
      rw [Nat.add_zero] at g0
      rw [g0, hg 1 (by omega), hg 2 (by omega), hg 3 (by omega), hg 4 (by omega)]
      refine ((h.2.2 i hik).mono fun b hb => (hsame b (by omega) hb.2.2.2).trans (hb1.block b hb.2.1)).sub fun b hb => ⟨hb.1, by omega, hb.2.2.1, fun e => ?_⟩
      have e' : g = b := by simpa [Value.ownBlock] using e
      rcases hat with h1 | h1
      · exact hb.2.2.2 (by rw [h1, e'])
      · omega
  · have := (h.1.lt b e).1
    omega

theorem OwnKids.set {w : World} {lo ob : Nat} {ks : List V} {k : Nat} {v : Value} {xs : List Value} (h : OwnKids w lo ob ks k v xs) (o : Nat) (u : Value) : OwnKids (w.setCell ⟨ob, o, none⟩ u) lo ob ks k v xs := by
  refine ⟨h.1.kept (row := some ob) ⟨rfl, rfl, rfl, by rw [size_set]; exact Nat.le_refl _, fun b _ hne => Below.heap_setCell _ _ _ _ (fun e => hne (by rw [show b = ob from e]))⟩ (Or.inr h.2.1), h.2.1, fun i hi => ?_⟩
  refine ((h.2.2 i hi).mono fun b hb => Below.heap_setCell _ _ _ _ (fun e => hb.2.2.1 e)).sub fun b hb => ⟨hb.1, by rw [size_set]; exact hb.2.1, hb.2.2⟩

theorem OwnKids.kids {w : World} {lo ob : Nat} {ks : List V} {v : Value} {xs : List Value} (h : OwnKids w lo ob ks ks.length v xs) (hb : 80 * ks.length ≤ 281474976710656) :
    ∃ (ka : Option Addr) (kc : Nat), v = .slice ka ks.length kc ∧ Kids w (fun b => lo ≤ b ∧ b < w.heap.size ∧ b ≠ ob) ks ka := by
  obtain ⟨h1, h2, h3⟩ := h
  rcases h1.2 with ⟨rfl, h0⟩ | ⟨g, cap, cur, rfl, hlo, hg, _⟩
  · refine ⟨none, 0, by rw [h0], hb, 0, 0, fun _ _ => undef, fun hn => ?_, fun i hi => by omega, fun i hi => by omega⟩
    exact absurd (List.eq_nil_of_length_eq_zero h0) hn
  · have hlt : g < w.heap.size := (Array.getElem?_eq_some_iff.1 hg).1
    refine ⟨_, cap, rfl, hb, g, 0, fun i j => xs.getD (i * 5 + j) undef, fun _ => ⟨rfl, hlo, hlt, fun e => h2 (by rw [e]; rfl)⟩, fun i hi j hj => ?_, fun i hi => (h3 i hi).sub fun b hb => ⟨hb.1, hb.2.1, hb.2.2.1⟩⟩
    have hx := h1.1
    have := h1.cellAt (i * 5 + j) (by omega)
    show _ = some (xs.getD (i * 5 + j) undef)
    rw [Nat.zero_add, this, List.getD_eq_getElem?_getD, List.getElem?_eq_getElem (by omega)]
    rfl
theorem OwnKids.owns {wr w1 : World} {lo ob : Nat} {ks : List V} {k : Nat} {v : Value} {xs : List Value} (h : OwnKids wr lo ob ks k v xs) (hb1 : Below wr.heap.size wr w1) (o : Obj) : (w1.alloc o).ownsRow lo 45 5 v k xs :=
  (h.1.kept (row := none) ⟨hb1.os, hb1.tape, hb1.output, hb1.size, fun b hb _ => hb1.block b hb⟩ (by cases hv : v.ownBlock <;> simp)).alloc o

end Go.Proofs.YtmemijccbmnaaaaGreat

namespace Go.Proofs.YtmemijccbmnaaaaGreat
set_option linter.unusedSimpArgs false
set_option linter.unusedVariables false
open Go.RowKit

/-- A place that is still to be copied: the way to it, its block, where it begins there, and what is meant there. -/
structure Pq where
  p : List Nat
  b : Nat
  o : Nat
  y : V
def Pq.has (e : Pq) (b o : Nat) : Prop := e.b = b ∧ e.o ≤ o ∧ o < e.o + 5
def inQ (L : List Pq) (b o : Nat) : Prop := ∃ e ∈ L, e.has b o
/-- A place holds a value, its lists apart. -/
def RepLab (w : World) (P : Nat → Prop) (lab : Nat → List Nat) (p : List Nat) (b o : Nat) (y : V) : Prop := ∃ c0 c1 c2 c3 c4 : Value, w.cell? ⟨b, o, none⟩ = some c0 ∧ w.cell? ⟨b, o + 1, none⟩ = some c1 ∧ w.cell? ⟨b, o + 2, none⟩ = some c2 ∧ w.cell? ⟨b, o + 3, none⟩ = some c3 ∧ w.cell? ⟨b, o + 4, none⟩ = some c4 ∧ Rep w P y (.agg #[c0, c1, c2, c3, c4]) ∧ LRep w lab p y (.agg #[c0, c1, c2, c3, c4])
/-- In every later world that keeps the blocks T outside the open places, and in which each open place holds its value in new memory, the root holds x in new memory. -/
def ClosesL (w : World) (lab : Nat → List Nat) (base : Nat) (T : Nat → Prop) (L : List Pq) (root : Nat) (x : V) : Prop :=
  ∀ (w' : World) (lab' : Nat → List Nat), w.heap.size ≤ w'.heap.size → (∀ b, T b → lab' b = lab b) → (∀ b o, T b → ¬ inQ L b o → w'.cell? ⟨b, o, none⟩ = w.cell? ⟨b, o, none⟩) → (∀ b i, T b → w'.frozen? ⟨b, i, none⟩ = w.frozen? ⟨b, i, none⟩) →
    (∀ e, e ∈ L → RepLab w' (New base w') lab' e.p e.b e.o e.y) → RepLab w' (New base w') lab' [] root 0 x

theorem ClosesL.start (w : World) (lab : Nat → List Nat) (base : Nat) (T : Nat → Prop) (root : Nat) (x : V) : ClosesL w lab base T [⟨[], root, 0, x⟩] root x := fun w' lab' _ _ _ _ h => h ⟨[], root, 0, x⟩ (by simp)
theorem ClosesL.done {w : World} {lab : Nat → List Nat} {base : Nat} {T : Nat → Prop} {root : Nat} {x : V} (h : ClosesL w lab base T [] root x) : RepLab w (New base w) lab [] root 0 x :=
  h w lab (Nat.le_refl _) (fun _ _ => rfl) (fun _ _ _ _ => rfl) (fun _ _ _ => rfl) (fun e he => by simp at he)

/-- The places of the first kids. -/
def kidQ (p : List Nat) (kb : Nat) (ks : List V) (n : Nat) : List Pq := (List.range n).map fun i => ⟨(i + 2) :: p, kb, i * 5, kth ks i⟩
theorem kidQ_succ (p : List Nat) (kb : Nat) (ks : List V) (n : Nat) : kidQ p kb ks (n + 1) = kidQ p kb ks n ++ [⟨(n + 2) :: p, kb, n * 5, kth ks n⟩] := by simp [kidQ, List.range_succ]
theorem kidQ_mem {p : List Nat} {kb : Nat} {ks : List V} {n : Nat} {e : Pq} (h : e ∈ kidQ p kb ks n) : ∃ i, i < n ∧ e = ⟨(i + 2) :: p, kb, i * 5, kth ks i⟩ := by
  simp only [kidQ, List.mem_map, List.mem_range] at h
  obtain ⟨i, hi, rfl⟩ := h
  exact ⟨i, hi, rfl⟩
theorem kidQ_in (p : List Nat) (kb : Nat) (ks : List V) {n i : Nat} (h : i < n) : (⟨(i + 2) :: p, kb, i * 5, kth ks i⟩ : Pq) ∈ kidQ p kb ks n := by
  simp only [kidQ, List.mem_map, List.mem_range]; exact ⟨i, h, rfl⟩

/-- What is to be done still: the parts of all open places. -/
def todoQ (L : List Pq) : Nat := cntL (L.map Pq.y)
theorem kidQ_vals (p : List Nat) (kb : Nat) (ks : List V) : (kidQ p kb ks ks.length).map Pq.y = ks := by
  apply List.ext_getElem
  · simp [kidQ]
  · intro i h1 h2; simp [kidQ, kth, List.getD_eq_getElem?_getD, List.getElem?_eq_getElem h2]
theorem todoQ_step (L0 : List Pq) (p : List Nat) (b o : Nat) (s n : Int) (t : ByteArray) (ns : List ByteArray) (ks : List V) (kb : Nat) : todoQ (L0 ++ kidQ p kb ks ks.length) + 1 = todoQ (L0 ++ [⟨p, b, o, .mk s n t ns ks⟩]) := by
  simp only [todoQ, List.map_append, cntL_append, kidQ_vals, List.map_cons, List.map_nil, cntL, cntV]
  omega
theorem todoQ_len (L : List Pq) : L.length ≤ todoQ L := by
  induction L with
  | nil => simp
  | cons e r ih =>
    have := cntV_pos e.y
    simp only [todoQ, List.map_cons, cntL, List.length_cons] at ih ⊢
    omega

theorem ClosesL.step {w w2 : World} {lab lab2 : Nat → List Nat} {base : Nat} {T T2 N : Nat → Prop} {L0 : List Pq} {p : List Nat} {b o : Nat} {s n : Int} {t : ByteArray} {ns : List ByteArray} {ks : List V} {root : Nat} {x : V} {na ka : Option Addr} {nc kc kb : Nat}
    (h : ClosesL w lab base T (L0 ++ [⟨p, b, o, .mk s n t ns ks⟩]) root x) (hsz : w.heap.size ≤ w2.heap.size) (hbz : base + 1 < w.heap.size)
    (hT : ∀ c, T c → base ≤ c ∧ c < w.heap.size) (hTb : T b) (hT2 : ∀ c, T c → T2 c) (hN2 : ∀ c, N c → T2 c) (hk2 : ks ≠ [] → T2 kb)
    (hL0 : ∀ e, e ∈ L0 → T e.b) (hap : ∀ e, e ∈ L0 → e.b ≠ b ∨ e.o + 5 ≤ o ∨ o + 5 ≤ e.o)
    (hN : ∀ c, N c → w.heap.size ≤ c ∧ c < w2.heap.size ∧ c ≠ kb) (hkb : w.heap.size ≤ kb) (hkb2 : ks ≠ [] → kb < w2.heap.size)
    (hkeep : ∀ c i, T c → ¬ inQ (L0 ++ [⟨p, b, o, .mk s n t ns ks⟩]) c i → w2.cell? ⟨c, i, none⟩ = w.cell? ⟨c, i, none⟩) (hfk : ∀ c i, T c → w2.frozen? ⟨c, i, none⟩ = w.frozen? ⟨c, i, none⟩)
    (hl1 : ∀ c, T c → lab2 c = lab c) (hl2 : ∀ c, N c → lab2 c = 0 :: p) (hl3 : ks ≠ [] → lab2 kb = 1 :: p) (hf2 : ∀ nb off, na = some ⟨nb, off, none⟩ → ∀ i, w2.frozen? ⟨nb, i, none⟩ = false) (hf3 : ks ≠ [] → ∀ i, w2.frozen? ⟨kb, i, none⟩ = false)
    (c0 : w2.cell? ⟨b, o, none⟩ = some (.int .i64 s)) (c1 : w2.cell? ⟨b, o + 1, none⟩ = some (.int .i64 n)) (c2 : w2.cell? ⟨b, o + 2, none⟩ = some (.string t)) (c3 : w2.cell? ⟨b, o + 3, none⟩ = some (.slice na ns.length nc)) (c4 : w2.cell? ⟨b, o + 4, none⟩ = some (.slice ka ks.length kc))
    (hS : Strs w2 N ns na) (hnc : ns.length ≤ nc) (ht : t.size ≤ maxLen) (hbs : 16 * ns.length ≤ 281474976710656) (hbk : 80 * ks.length ≤ 281474976710656) (hka : ks ≠ [] → ka = some ⟨kb, 0, none⟩) :
    ClosesL w2 lab2 base T2 (L0 ++ kidQ p kb ks ks.length) root x := by
  intro w' lab' hz hlab hk hfr hr
  have hbb := hT b hTb
  have notK : ∀ c i, c < w.heap.size → ¬ inQ (kidQ p kb ks ks.length) c i := by
    rintro c i hc ⟨e, he, h1, -⟩
    obtain ⟨j, hj, rfl⟩ := kidQ_mem he
    simp only at h1
    omega
  refine h w' lab' (by omega) (fun c hc => (hlab c (hT2 c hc)).trans (hl1 c hc)) (fun c i hc hn => ?_) (fun c i hc => (hfr c i (hT2 c hc)).trans (hfk c i hc)) (fun e he => ?_)
  · rw [hk c i (hT2 c hc) (fun hin => hn ?_), hkeep c i hc hn]
    obtain ⟨e, he, hh⟩ := hin
    rcases List.mem_append.1 he with he | he
    · exact ⟨e, List.mem_append_left _ he, hh⟩
    · exact absurd ⟨e, he, hh⟩ (notK c i (hT c hc).2)
  · rcases List.mem_append.1 he with he | he
    · exact hr e (List.mem_append_left _ he)
    · obtain rfl : e = ⟨p, b, o, .mk s n t ns ks⟩ := by simpa using he
      have cell : ∀ j, j < 5 → w'.cell? ⟨b, o + j, none⟩ = w2.cell? ⟨b, o + j, none⟩ := fun j hj => hk b (o + j) (hT2 b hTb) fun hin => by
        obtain ⟨e, he, h1, h2, h3⟩ := hin
        rcases List.mem_append.1 he with he' | he'
        · rcases hap e he' with h4 | h4 | h4
          · exact h4 h1
          · omega
          · omega
        · exact notK b (o + j) hbb.2 ⟨e, he', h1, h2, h3⟩
      have hncell : ∀ nb off, N nb → ∀ i, w'.cell? ⟨nb, off + i, none⟩ = w2.cell? ⟨nb, off + i, none⟩ := fun nb off e2 i => hk nb (off + i) (hN2 nb e2) fun hin => by
        have hn := hN nb e2
        obtain ⟨e, he, h1, h2, h3⟩ := hin
        rcases List.mem_append.1 he with he' | he'
        · have := (hT _ (hL0 e he')).2; omega
        · obtain ⟨j, hj, rfl⟩ := kidQ_mem he'
          exact hn.2.2 h1.symm
      have hK : ∀ i, ∃ C : Nat → Value, i < ks.length → (∀ j, j < 5 → w'.cell? ⟨kb, 0 + i * 5 + j, none⟩ = some (C j)) ∧ Rep w' (New base w') (kth ks i) (.agg #[C 0, C 1, C 2, C 3, C 4]) ∧ LRep w' lab' ((i + 2) :: p) (kth ks i) (.agg #[C 0, C 1, C 2, C 3, C 4]) := fun i => by
        by_cases hi : i < ks.length
        · obtain ⟨d0, d1, d2, d3, d4, g0, g1, g2, g3, g4, hR, hL⟩ := hr ⟨(i + 2) :: p, kb, i * 5, kth ks i⟩ (List.mem_append_right _ (kidQ_in p kb ks hi))
          refine ⟨fun j => if j = 0 then d0 else if j = 1 then d1 else if j = 2 then d2 else if j = 3 then d3 else d4, fun _ => ⟨fun j hj => ?_, by simpa using hR, by simpa using hL⟩⟩
          have : j = 0 ∨ j = 1 ∨ j = 2 ∨ j = 3 ∨ j = 4 := by omega
          rcases this with rfl | rfl | rfl | rfl | rfl
          · simpa using g0
          · simpa using g1
          · simpa using g2
          · simpa using g3
          · simpa using g4
        · exact ⟨fun _ => undef, fun h => absurd h hi⟩
      obtain ⟨C, hC⟩ := Classical.skolem.1 hK
      refine ⟨_, _, _, _, _, (cell 0 (by omega)).trans c0, (cell 1 (by omega)).trans c1, (cell 2 (by omega)).trans c2, (cell 3 (by omega)).trans c3, (cell 4 (by omega)).trans c4, Rep.of_kids ⟨fun hne => ?_, hS.2⟩ hnc ht hbs ⟨hbk, kb, 0, C, fun hne => ⟨hka hne, by omega, by have := hkb2 hne; omega, by omega⟩, fun i hi => (hC i hi).1, fun i hi => (hC i hi).2.1⟩, LRep.of_kids (fun hne => ?_) ⟨kb, 0, C, fun hne => ⟨hka hne, ?_, fun i => ?_⟩, fun i hi => (hC i hi).1, fun i hi => (hC i hi).2.2⟩⟩
      · obtain ⟨nb, off, e1, e2, e3⟩ := hS.1 hne
        have hn := hN nb e2
        exact ⟨nb, off, e1, ⟨by omega, by omega, by omega⟩, fun i hi => (hncell nb off e2 i).trans (e3 i hi)⟩
      · obtain ⟨nb, off, e1, e2, e3⟩ := hS.1 hne
        exact ⟨nb, off, e1, (hlab nb (hN2 nb e2)).trans (hl2 nb e2), fun i => (hfr nb i (hN2 nb e2)).trans (hf2 nb off e1 i), fun i hi => (hncell nb off e2 i).trans (e3 i hi)⟩
      · exact (hlab kb (hk2 hne)).trans (hl3 hne)
      · exact (hfr kb i (hk2 hne)).trans (hf3 hne i)
end Go.Proofs.YtmemijccbmnaaaaGreat

namespace Go.Proofs.YtmemijccbmnaaaaGreat
set_option linter.unusedSimpArgs false
set_option linter.unusedVariables false
open Go.RowKit

/-- What copyValue does. -/
def CvL (x : V) (w : World) (B : Nat) (v : Value) : Prop :=
  Calls Tryz.prog 59 #[v] w fun e w' => ∃ (na ka : Option Addr) (nc kc : Nat), e = .returned (.agg #[.int .i64 x.sort, .int .i64 x.num, .string x.text, .slice na x.names.length nc, .slice ka x.kids.length kc]) ∧ Below w.heap.size w w' ∧
    Rep w' (fun b => w.heap.size ≤ b ∧ b < w'.heap.size) x (.agg #[.int .i64 x.sort, .int .i64 x.num, .string x.text, .slice na x.names.length nc, .slice ka x.kids.length kc]) ∧
    ∃ lab : Nat → List Nat, (∀ b, lab b ≠ [] → w.heap.size ≤ b ∧ b < w'.heap.size) ∧ LRep w' lab [] x (.agg #[.int .i64 x.sort, .int .i64 x.num, .string x.text, .slice na x.names.length nc, .slice ka x.kids.length kc])

/-- What holds in a round: the open places, their row of pointers, what is made so far. -/
def OpensL (w0 : World) (B root : Nat) (x : V) (wr : World) (lab : Nat → List Nat) (T : Nat → Prop) (L : List Pq) (vo : Value) : Prop :=
  (∀ b, lab b ≠ [] → T b ∧ b ≠ root) ∧ ClosesL wr lab root T L root x ∧ (∀ c, T c → root ≤ c ∧ c < wr.heap.size ∧ c ≠ root + 1 ∧ vo.ownBlock ≠ some c) ∧ T root ∧
  (∀ e, e ∈ L → T e.b ∧ RepAt wr (· < B) e.b e.o e.y ∧ (∃ f, fit f e.y) ∧ ∀ i, wr.frozen? ⟨e.b, i, none⟩ = false) ∧ L.Pairwise (fun e e' => e.b ≠ e'.b ∨ e.o + 5 ≤ e'.o ∨ e'.o + 5 ≤ e.o) ∧
  wr.ownsRow (root + 1 + 1) 153 1 vo L.length (L.map fun e => .pointer (some ⟨e.b, e.o, none⟩)) ∧ Below root w0 wr ∧ ∃ y0 y1 y2 y3 y4, Row5 wr (root + 1) y0 y1 y2 y3 y4

theorem OpensL.start (f : Nat) (s n : Int) (t : ByteArray) (ns : List ByteArray) (ks : List V) (na ka : Option Addr) (nc kc : Nat) (w : World) (B : Nat) (hfit : fit f (.mk s n t ns ks)) (hR : Rep w (· < B) (.mk s n t ns ks) (.agg #[.int .i64 s, .int .i64 n, .string t, .slice na ns.length nc, .slice ka ks.length kc])) (hB : B ≤ w.heap.size) :
    OpensL w B w.heap.size (.mk s n t ns ks) (((w.alloc (.cells #[.int .i64 s, .int .i64 n, .string t, .slice na ns.length nc, .slice ka ks.length kc] 45)).alloc (.cells #[.int .i64 0, .int .i64 0, .string ByteArray.empty, .slice none 0 0, .slice none 0 0] 45)).alloc (.cells #[.pointer (some ⟨w.heap.size, 0, none⟩)] 153))
      (fun _ => []) (fun c => c = w.heap.size) [⟨[], w.heap.size, 0, .mk s n t ns ks⟩] (.slice (some ⟨w.heap.size + 1 + 1, 0, none⟩) 1 1) := by
  have b1 := below_box w (.cells #[.int .i64 s, .int .i64 n, .string t, .slice na ns.length nc, .slice ka ks.length kc] 45)
  have r0 := Row5.new w (.int .i64 s) (.int .i64 n) (.string t) (.slice na ns.length nc) (.slice ka ks.length kc)
  have z1 : (w.alloc (.cells #[.int .i64 s, .int .i64 n, .string t, .slice na ns.length nc, .slice ka ks.length kc] 45)).heap.size = w.heap.size + 1 := by simp
  generalize w.alloc (.cells #[.int .i64 s, .int .i64 n, .string t, .slice na ns.length nc, .slice ka ks.length kc] 45) = w1 at b1 r0 z1
  have b2 := below_box w1 (.cells #[.int .i64 0, .int .i64 0, .string ByteArray.empty, .slice none 0 0, .slice none 0 0] 45)
  have r1 := Row5.new w1 (.int .i64 0) (.int .i64 0) (.string ByteArray.empty) (.slice none 0 0) (.slice none 0 0)
  have z2 : (w1.alloc (.cells #[.int .i64 0, .int .i64 0, .string ByteArray.empty, .slice none 0 0, .slice none 0 0] 45)).heap.size = w1.heap.size + 1 := by simp
  generalize w1.alloc (.cells #[.int .i64 0, .int .i64 0, .string ByteArray.empty, .slice none 0 0, .slice none 0 0] 45) = w2 at b2 r1 z2
  have b3 := below_box w2 (.cells #[.pointer (some ⟨w.heap.size, 0, none⟩)] 153)
  have z3 : (w2.alloc (.cells #[.pointer (some ⟨w.heap.size, 0, none⟩)] 153)).heap.size = w2.heap.size + 1 := by simp
  have k3 := heap_alloc_new w2 (.cells #[.pointer (some ⟨w.heap.size, 0, none⟩)] 153)
  generalize w2.alloc (.cells #[.pointer (some ⟨w.heap.size, 0, none⟩)] 153) = w3 at b3 z3 k3
  have hb : Below w.heap.size w w3 := (b1.trans (b2.mono (by omega))).trans (b3.mono (by omega))
  have R0 := (r0.of_block (b2.block _ (by omega))).of_block (b3.block _ (by omega))
  rw [z1] at r1
  have R1 := r1.of_block (b3.block _ (by omega))
  obtain ⟨c0, c1, c2, c3, c4⟩ := R0.five
  refine ⟨fun b hb => absurd rfl hb, ClosesL.start _ _ _ _ _ _, fun c hc => ?_, rfl, fun e he => ?_, by simp, ⟨by simp, Or.inr ⟨w.heap.size + 1 + 1, 1, #[.pointer (some ⟨w.heap.size, 0, none⟩)], rfl, Nat.le_refl _, ?_, Nat.le_refl _, by simp [maxLen], by simp, by simp⟩⟩, hb, _, _, _, _, _, R1⟩
  · subst hc
    refine ⟨Nat.le_refl _, by omega, by omega, ?_⟩
    simp [Value.ownBlock]; omega
  · obtain rfl : e = ⟨[], w.heap.size, 0, .mk s n t ns ks⟩ := by simpa using he
    exact ⟨rfl, ⟨_, _, _, _, _, c0, c1, c2, c3, c4, hR.under (hb.mono hB)⟩, ⟨f, hfit⟩, R0.frozen⟩
  · rw [show w.heap.size + 1 + 1 = w2.heap.size by omega]; exact k3

theorem frozen_below {w w' : World} {b : Nat} (h : Below w.heap.size w w') (hb : b < w.heap.size) (i : Nat) : w'.frozen? ⟨b, i, none⟩ = w.frozen? ⟨b, i, none⟩ := by
  have := h.block b hb
  simp [World.frozen?, this]
theorem owns_slice {w : World} {base : Nat} {e : TypeId} {k : Nat} {v : Value} {n : Nat} {xs : List Value} (h : w.ownsRow base e k v n xs) : ∃ (a : Option Addr) (cap : Nat), v = .slice a n cap := by
  rcases h.2 with ⟨rfl, rfl⟩ | ⟨g, cap, cur, rfl, -⟩
  · exact ⟨none, 0, rfl⟩
  · exact ⟨_, cap, rfl⟩

theorem kidQ_apart (p : List Nat) (kb : Nat) (ks : List V) : ∀ n, (kidQ p kb ks n).Pairwise (fun e e' => e.b ≠ e'.b ∨ e.o + 5 ≤ e'.o ∨ e'.o + 5 ≤ e.o)
  | 0 => by simp [kidQ]
  | n + 1 => by
    rw [kidQ_succ, List.pairwise_append]
    refine ⟨kidQ_apart p kb ks n, by simp, fun e he e' he' => ?_⟩
    obtain ⟨i, hi, rfl⟩ := kidQ_mem he
    obtain rfl : e' = ⟨(n + 2) :: p, kb, n * 5, kth ks n⟩ := by simpa using he'
    right; left
    show i * 5 + 5 ≤ n * 5
    omega

theorem OpensL.turn {w wr wx : World} {B root : Nat} {x : V} {lab : Nat → List Nat} {T N : Nat → Prop} {L0 : List Pq} {p : List Nat} {b o : Nat} {s n : Int} {t : ByteArray} {ns : List ByteArray} {ks : List V} {vo vo' : Value} {og g : Nat} {na ka : Option Addr} {nc kc : Nat}
    (hO : OpensL w B root x wr lab T (L0 ++ [⟨p, b, o, .mk s n t ns ks⟩]) vo) (hBr : B ≤ root) (hog : vo.ownBlock = some og)
    (hsz : wr.heap.size ≤ wx.heap.size) (hos : wx.os = wr.os) (htp : wx.tape = wr.tape) (hou : wx.output = wr.output)
    (hblk : ∀ c, c < wr.heap.size → c ≠ b → c ≠ og → wx.heap[c]? = wr.heap[c]?)
    (hcell : ∀ i, i ≠ o + 3 → i ≠ o + 4 → wx.cell? ⟨b, i, none⟩ = wr.cell? ⟨b, i, none⟩) (hfz : ∀ i, wx.frozen? ⟨b, i, none⟩ = wr.frozen? ⟨b, i, none⟩)
    (c3 : wx.cell? ⟨b, o + 3, none⟩ = some (.slice na ns.length nc)) (c4 : wx.cell? ⟨b, o + 4, none⟩ = some (.slice ka ks.length kc))
    (hN : ∀ c, N c → wr.heap.size ≤ c ∧ c < wx.heap.size ∧ c ≠ g ∧ vo'.ownBlock ≠ some c) (hS : Strs wx N ns na) (hnc : ns.length ≤ nc) (hsf : ∀ nb off, na = some ⟨nb, off, none⟩ → ∀ i, wx.frozen? ⟨nb, i, none⟩ = false)
    (hg : wr.heap.size ≤ g) (hgx : ks ≠ [] → g < wx.heap.size) (hka : ks ≠ [] → ka = some ⟨g, 0, none⟩) (hgo : ks ≠ [] → vo'.ownBlock ≠ some g) (hgf : ks ≠ [] → ∀ i, wx.frozen? ⟨g, i, none⟩ = false)
    (hkids : ∀ i, i < ks.length → RepAt wx (· < B) g (i * 5) (kth ks i)) (hvo : ∀ c, c < wr.heap.size → vo'.ownBlock = some c → c = og)
    (hown : wx.ownsRow (root + 1 + 1) 153 1 vo' (L0.length + ks.length) ((L0 ++ kidQ p g ks ks.length).map fun e => .pointer (some ⟨e.b, e.o, none⟩))) :
    ∃ lab2, OpensL w B root x wx lab2 (fun c => T c ∨ N c ∨ (ks ≠ [] ∧ c = g)) (L0 ++ kidQ p g ks ks.length) vo' := by
  classical
  obtain ⟨hLb, hCl, hT, hTr, hLe, hap, hownr, hbel, y0, y1, y2, y3, y4, hr1⟩ := hO
  have hogl := hownr.lt og hog
  have hr1l := hr1.lt
  obtain ⟨hTb, ⟨d0, d1, d2, d3, d4, p0, p1, p2, p3, p4, hrep⟩, ⟨fe, hfe⟩, hfb⟩ := hLe ⟨p, b, o, .mk s n t ns ks⟩ (by simp)
  simp only at hTb p0 p1 p2 p3 p4 hrep hfe hfb
  obtain ⟨na0, ka0, nc0, kc0, e5, -, -, ht, hbs, hK⟩ := hrep.inv
  simp only [Value.agg.injEq, Array.mk.injEq, List.cons.injEq, and_true] at e5
  obtain ⟨rfl, rfl, rfl, rfl, rfl⟩ := e5
  have hkf : ∀ i, i < ks.length → ∃ f, fit f (kth ks i) := by
    match fe, hfe with
    | fe + 1, hfe => exact fun i hi => ⟨fe, hfe.2.2 i hi⟩
  have hTB := hT b hTb
  have hbw : Below root wr wx := ⟨hos, htp, hou, hsz, fun c hc => hblk c (by omega) (by omega) (by omega)⟩
  rw [List.pairwise_append] at hap
  have hap' : ∀ e, e ∈ L0 → e.b ≠ b ∨ e.o + 5 ≤ o ∨ o + 5 ≤ e.o := fun e he => hap.2.2 e he ⟨p, b, o, .mk s n t ns ks⟩ (by simp)
  have hTo : ∀ c, T c → c ≠ og := fun c hc e => (hT c hc).2.2.2 (by rw [hog, e])
  have nN : ∀ c, T c → ¬ N c := fun c hc hn => by have := (hT c hc).2.1; have := (hN c hn).1; omega
  have nG : ∀ c, T c → c ≠ g := fun c hc e => by have := (hT c hc).2.1; omega
  refine ⟨fun c => if N c then 0 :: p else if ks ≠ [] ∧ c = g then 1 :: p else lab c, fun c hc => ?_, ClosesL.step (T2 := fun c => T c ∨ N c ∨ (ks ≠ [] ∧ c = g)) (N := N) hCl hsz hr1l (fun c hc => ⟨(hT c hc).1, (hT c hc).2.1⟩) hTb (fun c hc => Or.inl hc) (fun c hc => Or.inr (Or.inl hc)) (fun hne => Or.inr (Or.inr ⟨hne, rfl⟩)) (fun e he => (hLe e (List.mem_append_left _ he)).1) hap' (fun c hc => ⟨(hN c hc).1, (hN c hc).2.1, (hN c hc).2.2.1⟩) hg hgx (fun c i hc hn => ?_) (fun c i hc => ?_) (fun c hc => by rw [if_neg (nN c hc), if_neg (fun h => nG c hc h.2)]) (fun c hc => if_pos hc) (fun hne => by rw [if_neg (fun h => (hN g h).2.2.1 rfl), if_pos ⟨hne, rfl⟩]) hsf hgf
    ((hcell o (by omega) (by omega)).trans p0) ((hcell (o + 1) (by omega) (by omega)).trans p1) ((hcell (o + 2) (by omega) (by omega)).trans p2) c3 c4 hS hnc ht hbs hK.1 hka, fun c hc => ?_, Or.inl hTr, fun e he => ?_, ?_, ?_, hbel.trans hbw, y0, y1, y2, y3, y4, hr1.of_block (hblk _ (by omega) (fun e => hTB.2.2.1 e.symm) (by omega))⟩
  · simp only at hc
    by_cases h1 : N c
    · have := hN c h1; exact ⟨Or.inr (Or.inl h1), by omega⟩
    · rw [if_neg h1] at hc
      by_cases h2 : ks ≠ [] ∧ c = g
      · exact ⟨Or.inr (Or.inr h2), by have := h2.2; omega⟩
      · rw [if_neg h2] at hc
        exact ⟨Or.inl (hLb c hc).1, (hLb c hc).2⟩
  · by_cases hcb : c = b
    · subst hcb
      have : ¬ (o ≤ i ∧ i < o + 5) := fun h => hn ⟨⟨p, c, o, .mk s n t ns ks⟩, by simp, rfl, h.1, h.2⟩
      exact hcell i (by omega) (by omega)
    · exact World.cell?_of_block (w := wr) (a := ⟨c, i, none⟩) (hblk c (hT c hc).2.1 hcb (hTo c hc))
  · by_cases hcb : c = b
    · subst hcb; exact hfz i
    · exact World.frozen?_of_block (w := wr) (a := ⟨c, i, none⟩) (hblk c (hT c hc).2.1 hcb (hTo c hc))
  · rcases hc with hc | hc | ⟨hne, rfl⟩
    · have h1 := hT c hc
      exact ⟨h1.1, by omega, h1.2.2.1, fun e => hTo c hc (hvo c h1.2.1 e)⟩
    · have h1 := hN c hc
      exact ⟨by omega, h1.2.1, by omega, h1.2.2.2⟩
    · exact ⟨by omega, hgx hne, by omega, hgo hne⟩
  · rcases List.mem_append.1 he with he | he
    · obtain ⟨h1, ⟨q0, q1, q2, q3, q4, k0, k1, k2, k3, k4, hq⟩, h3, h4⟩ := hLe e (List.mem_append_left _ he)
      have hqx := hq.under (hbw.mono hBr)
      by_cases hcb : e.b = b
      · have hc : ∀ i, e.o ≤ i → i < e.o + 5 → wx.cell? ⟨e.b, i, none⟩ = wr.cell? ⟨e.b, i, none⟩ := fun i hi hi' => by
          rcases hap' e he with h | h | h
          · exact absurd hcb h
          · rw [hcb]; exact hcell i (by omega) (by omega)
          · rw [hcb]; exact hcell i (by omega) (by omega)
        exact ⟨Or.inl h1, ⟨_, _, _, _, _, (hc _ (by omega) (by omega)).trans k0, (hc _ (by omega) (by omega)).trans k1, (hc _ (by omega) (by omega)).trans k2, (hc _ (by omega) (by omega)).trans k3, (hc _ (by omega) (by omega)).trans k4, hqx⟩, h3, fun i => by rw [hcb, hfz i, ← hcb]; exact h4 i⟩
      · have hb' := hblk e.b (hT _ h1).2.1 hcb (hTo _ h1)
        have hc : ∀ i, wx.cell? ⟨e.b, i, none⟩ = wr.cell? ⟨e.b, i, none⟩ := fun i => World.cell?_of_block (w := wr) (a := ⟨e.b, i, none⟩) hb'
        exact ⟨Or.inl h1, ⟨_, _, _, _, _, (hc _).trans k0, (hc _).trans k1, (hc _).trans k2, (hc _).trans k3, (hc _).trans k4, hqx⟩, h3, fun i => (World.frozen?_of_block (w := wr) (a := ⟨e.b, i, none⟩) hb').trans (h4 i)⟩
    · obtain ⟨i, hi, rfl⟩ := kidQ_mem he
      have hne : ks ≠ [] := by intro e; simp [e] at hi
      exact ⟨Or.inr (Or.inr ⟨hne, rfl⟩), hkids i hi, hkf i hi, hgf hne⟩
  · rw [List.pairwise_append]
    refine ⟨hap.1, kidQ_apart _ _ _ _, fun e he e' he' => Or.inl ?_⟩
    obtain ⟨i, hi, rfl⟩ := kidQ_mem he'
    have := (hT _ (hLe e (List.mem_append_left _ he)).1).2.1
    show e.b ≠ g
    omega
  · have : (L0 ++ kidQ p g ks ks.length).length = L0.length + ks.length := by simp [kidQ]
    rw [this]; exact hown

end Go.Proofs.YtmemijccbmnaaaaGreat
