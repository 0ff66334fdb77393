import Derived.Test.YtbpdchlbhfjddaaGreatJ16
import Derived.Test.YtbpdchlbhfjddaaGreatJ15
namespace Go.Proofs.YtbpdchlbhfjddaaGreat
set_option linter.unusedSimpArgs false
set_option linter.unusedVariables false
open Go.RowKit

set_option maxRecDepth 20000 in
set_option maxHeartbeats 1600000 in
theorem StoreCutS_any (p : Pt) (rs : List Ro) (w : World) (B : Nat) (u : Value) (ra : Option Addr) (rc : Nat) (hPt : PRep w (· < B) p u) (hB : B ≤ w.heap.size) (hz : szP p ≤ 1048576) (hR : RoReps w (· < B) rs ra) (hsz : rSz rs ≤ 1048576) :
    Calls Tryz.prog 6 #[u, .slice ra rs.length rc] w fun e w' => ∃ (a : Option Addr) (c : Nat), e = .returned (.slice a (cutA p rs).length c) ∧ Below w.heap.size w w' ∧ RoReps w' (fun b => w.heap.size ≤ b ∧ b < w'.heap.size) (cutA p rs) a := by
  have hrl : rs.length ≤ 1048576 := by unfold rSz at hsz; omega
  have hP' := hPt
  have HCA : Hid (cutA p rs = if okP p = true then cutTs p.types rs p.types.length else []) := rfl
  have hC := fun W (h : Below w.heap.size w W) => PartCheckS_any p W B u (hPt.under (h.mono hB)) (by have := h.size; omega) hz
  have hK := fun W (h : Below w.heap.size w W) (h5) (h8) => l4Cut_any p rs W B u ra rc (hPt.under (h.mono hB)) (by have := h.size; omega) (hR.under (h.mono hB)) h5 h8 hrl (fun i hi f => by
    have h1 := cellV_sz (rth rs i) f
    have h2 : szR (rth rs i) ≤ (rs.map szR).sum := sum_one szR Ro.zero rs i hi
    unfold rSz at hsz
    omega)
  have hok := fun h => okP_few (p := p) h
  obtain ⟨pname, types⟩ := p
  obtain ⟨ta, tc, rfl, -⟩ := hPt
  simp only at hC hK hP' hok
  have bP := below_box w (.cells #[.string pname, .slice ta types.length tc] 32)
  have C1 := hC _ bP
  have hok2 := partFault_ok ⟨pname, types⟩
  obtain ⟨pf, hpf⟩ : ∃ pf, pf = partFault ⟨pname, types⟩ := ⟨_, rfl⟩
  rw [← hpf] at C1 hok2
  clear hpf hC
  obtain ⟨f1, f2⟩ := pf
  simp only at C1 hok2
  have hfld := field_code (.int .i64 f1) (.int .i64 f2)
  have PC : ∀ W, Below (w.heap.size + 1) (w.alloc (.cells #[.string pname, .slice ta types.length tc] 32)) W → W.cell? ⟨w.heap.size, 0, none⟩ = some (.string pname) ∧ W.cell? ⟨w.heap.size, 1, none⟩ = some (.slice ta types.length tc) := fun W h =>
    ⟨(h.cell (p := ⟨w.heap.size, 0, none⟩) (by show w.heap.size < _; omega)).trans (box_new _ _ 0 (by simp)), (h.cell (p := ⟨w.heap.size, 1, none⟩) (by show w.heap.size < _; omega)).trans (box_new _ _ 1 (by simp))⟩
  cases ho : okP ⟨pname, types⟩
  · have hne : (f2 != 0) = true := by simp; intro e; rw [hok2.1 e] at ho; cases ho
    have HA : Hid (cutA ⟨pname, types⟩ rs = []) := hid_of (by rw [HCA.out, ho]; rfl)
    clear hok2 hok hK HCA
    go_enter Tryz.func6, Tryz.ntmps6
    go_wp2_with fail
    refine C1.mono ?_
    rintro e w1 ⟨rfl, hb1⟩
    have b1 := bP.trans (hb1.mono (by simp))
    have z1 := b1.size
    go_wp2_with fail
    go_ret
    rw [HA.out]
    exact ⟨_, 0, rfl, b1.trans ((below_box w1 _).mono z1), by simp, fun _ _ => undef, fun h => by simp at h, fun i hi => by simp at hi⟩
  · have he : f2 = 0 := hok2.2 ho
    subst he
    have HA : Hid (cutA ⟨pname, types⟩ rs = cutTs types rs types.length) := hid_of (by rw [HCA.out, ho]; rfl)
    obtain ⟨h5, h8⟩ := hok ho
    have hKK := fun W h => hK W h h5 h8
    clear hok2 hok hK HCA
    go_enter Tryz.func6, Tryz.ntmps6
    go_wp2_with fail
    refine C1.mono ?_
    rintro e w1 ⟨rfl, hb1⟩
    have b1 := bP.trans (hb1.mono (by simp))
    have z1 := b1.size
    obtain ⟨p0, p1⟩ := PC w1 (hb1.mono (by simp))
    have HK := hid_of (hKK w1 b1)
    clear hKK C1 hb1 PC
    go_wp2_with fail
    refine HK.out.mono ?_
    rintro e w2 ⟨a, c, rfl, hb2, hr2⟩
    have HR2 := hid_of hr2
    clear hr2
    go_wp2_with fail
    go_ret
    rw [HA.out]
    exact ⟨a, c, rfl, b1.trans (hb2.mono z1), HR2.out.sub fun b hb => ⟨by omega, hb.2⟩⟩
end Go.Proofs.YtbpdchlbhfjddaaGreat

namespace Go.Proofs.YtbpdchlbhfjddaaGreat
set_option linter.unusedSimpArgs false
set_option linter.unusedVariables false
open Go.RowKit

/-- A cell whose value has been copied. -/
def DCe (lab : Nat → List Nat) (p : List Nat) (X : Nat → Ce) (w : World) (i : Nat) (c : Nat → Value) : Prop :=
  LCe lab p X w i c ∧ Rep w (fun b => ((i + 2) :: p) <:+ lab b) (X i).val (.agg #[c 1, c 2, c 3, c 4, c 5]) ∧ (X i).name.size ≤ maxLen
theorem suffix_ne {a : Nat} {p l : List Nat} (h : (a :: p) <:+ l) : l ≠ [] := fun e => by
  rw [e] at h
  have := h.length_le
  simp at this
theorem DCe.keep {lab lab' : Nat → List Nat} {p : List Nat} {X : Nat → Ce} {w w' : World} {i : Nat} {c : Nat → Value} (h : DCe lab p X w i c) (e : ∀ b, lab b ≠ [] → ((i + 2) :: p) <:+ lab b → lab' b = lab b ∧ w'.heap[b]? = w.heap[b]?) : DCe lab' p X w' i c :=
  ⟨⟨h.1.1, (h.1.2.keep fun b h1 h2 => (e b h1 h2).2).labels fun b h1 h2 => (e b h1 h2).1⟩, (h.2.1.mono fun b hb => (e b (suffix_ne hb) hb).2).sub fun b hb => by rw [(e b (suffix_ne hb) hb).1]; exact hb, h.2.2⟩
/-- Cells of which the first have been copied. -/
def MCells (w : World) (lab : Nat → List Nat) (p : List Nat) (P : Nat → Prop) (cs : List Ce) (d : Nat) (a : Option Addr) : Prop :=
  0 < cs.length → ∃ b off, a = some ⟨b, off, none⟩ ∧ lab b = 1 :: p ∧ (∀ i, w.frozen? ⟨b, i, none⟩ = false) ∧ GRow w 6 cs.length b off (fun w i c => if i < d then DCe lab p (cth cs) w i c else SCe P (cth cs) w i c)
theorem MCells.keep {w w' : World} {lab lab' : Nat → List Nat} {p : List Nat} {P : Nat → Prop} {cs : List Ce} {d : Nat} {a : Option Addr} (h : MCells w lab p P cs d a) (hl : ∀ b, lab b ≠ [] → p <:+ lab b → lab' b = lab b ∧ w'.heap[b]? = w.heap[b]?) (e : ∀ k, P k → w'.heap[k]? = w.heap[k]?) : MCells w' lab' p P cs d a := fun hn => by
  obtain ⟨b, off, h1, h2, h3, C, h4, h5⟩ := h hn
  obtain ⟨hb1, hb⟩ := hl b (by rw [h2]; simp) (by rw [h2]; exact List.suffix_cons _ _)
  refine ⟨b, off, h1, hb1.trans h2, fun i => (World.frozen?_of_block (w := w) (a := ⟨b, i, none⟩) hb).trans (h3 i), C, fun i hi j hj => (World.cell?_of_block (w := w) (a := ⟨b, off + i * 6 + j, none⟩) hb).trans (h4 i hi j hj), fun i hi => ?_⟩
  have := h5 i hi
  by_cases hd : i < d
  · simp only [if_pos hd] at this ⊢
    exact this.keep fun b' k1 k2 => hl b' k1 (suffix_cons k2)
  · simp only [if_neg hd] at this ⊢
    exact this.keep e
theorem MCells.congr {w : World} {lab : Nat → List Nat} {p : List Nat} {P : Nat → Prop} {cs : List Ce} {d d' : Nat} {a : Option Addr} (h : MCells w lab p P cs d a) (e : d = d') : MCells w lab p P cs d' a := e ▸ h
/-- One more has been copied. -/
theorem MCells.put {w1 : World} {lab : Nat → List Nat} {p : List Nat} {P : Nat → Prop} {cs : List Ce} {j b off : Nat} (h : MCells w1 lab p P cs j (some ⟨b, off, none⟩)) (hj : j < cs.length) {d0 d1 d2 d3 d4 : Value}
    (hL : LRep w1 lab ((j + 2) :: p) (cth cs j).val (.agg #[d0, d1, d2, d3, d4])) (hR : Rep w1 (fun b => ((j + 2) :: p) <:+ lab b) (cth cs j).val (.agg #[d0, d1, d2, d3, d4])) (hP : ∀ k, P k → k ≠ b) :
    MCells (put5 w1 b (off + j * 6 + 1) d0 d1 d2 d3 d4) lab p P cs (j + 1) (some ⟨b, off, none⟩) := fun hn => by
  obtain ⟨b', off', h1, h2, h3, C, h4, h5⟩ := h hn
  simp only [Option.some.injEq, Addr.mk.injEq, and_true] at h1
  obtain ⟨rfl, rfl⟩ := h1
  have hoth : ∀ m, ¬ (off + j * 6 + 1 ≤ m ∧ m < off + j * 6 + 6) → (put5 w1 b (off + j * 6 + 1) d0 d1 d2 d3 d4).cell? ⟨b, m, none⟩ = w1.cell? ⟨b, m, none⟩ := fun m hm => by
    unfold put5
    rw [World.cell?_setCell_other _ _ _ _ (by intro e; simp only [Addr.mk.injEq, and_true, true_and] at e; omega), World.cell?_setCell_other _ _ _ _ (by intro e; simp only [Addr.mk.injEq, and_true, true_and] at e; omega), World.cell?_setCell_other _ _ _ _ (by intro e; simp only [Addr.mk.injEq, and_true, true_and] at e; omega), World.cell?_setCell_other _ _ _ _ (by intro e; simp only [Addr.mk.injEq, and_true, true_and] at e; omega), World.cell?_setCell_other _ _ _ _ (by intro e; simp only [Addr.mk.injEq, and_true, true_and] at e; omega)]
  have q : ∀ m, m < 6 → w1.cell? ⟨b, off + j * 6 + m, none⟩ = some (C j m) := fun m hm => h4 j hj m hm
  have hS : Sx6 (put5 w1 b (off + j * 6 + 1) d0 d1 d2 d3 d4) b (off + j * 6) (C j 0) d0 d1 d2 d3 d4 := by
    have s0 : Sx6 w1 b (off + j * 6) (C j 0) (C j 1) (C j 2) (C j 3) (C j 4) (C j 5) := ⟨q 0 (by omega), q 1 (by omega), q 2 (by omega), q 3 (by omega), q 4 (by omega), q 5 (by omega)⟩
    have s1 := ((s0.set1 d0).set2 d1).set3 d2
    obtain ⟨a0, a1, a2, a3, a4, a5⟩ := s1
    refine ⟨set_other (set_other a0 (by omega)) (by omega), set_other (set_other a1 (by omega)) (by omega), set_other (set_other a2 (by omega)) (by omega), set_other (set_other a3 (by omega)) (by omega), set_other (World.cell?_setCell_same _ _ _ a4) (by omega), World.cell?_setCell_same _ _ _ (set_other a5 (by omega))⟩
  have hblk := put5_block w1 b (off + j * 6 + 1) d0 d1 d2 d3 d4
  refine ⟨b, off, rfl, h2, fun i => by have := h3 i; simpa [put5] using this, fun i m => if i = j then [C j 0, d0, d1, d2, d3, d4].getD m undef else C i m, fun i hi m hm => ?_, fun i hi => ?_⟩
  · show _ = some (if i = j then [C j 0, d0, d1, d2, d3, d4].getD m undef else C i m)
    by_cases e : i = j
    · subst e
      rw [if_pos rfl]
      obtain ⟨a0, a1, a2, a3, a4, a5⟩ := hS
      have : m = 0 ∨ m = 1 ∨ m = 2 ∨ m = 3 ∨ m = 4 ∨ m = 5 := by omega
      rcases this with rfl | rfl | rfl | rfl | rfl | rfl
      · exact a0
      · exact a1
      · exact a2
      · exact a3
      · exact a4
      · exact a5
    · rw [if_neg e, hoth _ (by omega)]
      exact h4 i hi m hm
  · have h5i := h5 i hi
    by_cases e : i = j
    · subst e
      simp only [Nat.lt_irrefl, if_false] at h5i
      simp only [if_pos (Nat.lt_succ_self i)]
      refine ⟨⟨h5i.1, ?_⟩, ?_, h5i.2.2⟩
      · exact hL.keep fun c k1 k2 => hblk c (fun e => lab_own h2 (e ▸ k2))
      · exact hR.mono fun c k2 => hblk c (fun e => lab_own h2 (e ▸ k2))
    · have e' : (fun m => if i = j then [C j 0, d0, d1, d2, d3, d4].getD m undef else C i m) = C i := by funext m; simp [e]
      show if i < j + 1 then DCe lab p (cth cs) _ i (fun m => if i = j then [C j 0, d0, d1, d2, d3, d4].getD m undef else C i m) else SCe P (cth cs) _ i (fun m => if i = j then [C j 0, d0, d1, d2, d3, d4].getD m undef else C i m)
      rw [e']
      by_cases e2 : i < j
      · simp only [if_pos e2] at h5i
        rw [if_pos (by omega)]
        exact h5i.keep fun c k1 k2 => ⟨rfl, hblk c (fun e => lab_own h2 (e ▸ k2))⟩
      · simp only [if_neg e2] at h5i
        rw [if_neg (by omega)]
        exact h5i.keep fun k hk => hblk k (hP k hk)

/-- Where the copying of rows stands: before the value j of row i. -/
structure Cst (w wr : World) (P : Nat → Prop) (rl : List Ro) (b0 g m : Nat) (A : Nat → Option Addr) (K : Nat → Nat) (lab : Nat → List Nat) (i j : Nat) : Prop where
  bel : Below w.heap.size w wr
  way : ∀ b, lab b ≠ [] → w.heap.size ≤ b ∧ b < wr.heap.size ∧ b ≠ g ∧ b ≠ m
  base : 0 < rl.length → lab b0 = [1] ∧ ∀ i, wr.frozen? ⟨b0, i, none⟩ = false
  rowc : ∀ k, k < rl.length → Sx3 wr b0 (k * 3) (.string (rth rl k).type) (.int .i64 (rth rl k).id) (.slice (A k) (rth rl k).cells.length (K k))
  cells : ∀ k, k < rl.length → MCells wr lab [k + 2] P (rth rl k).cells (if k < i then (rth rl k).cells.length else if k = i then j else 0) (A k)
theorem Cst.next {w wr : World} {P : Nat → Prop} {rl : List Ro} {b0 g m : Nat} {A : Nat → Option Addr} {K : Nat → Nat} {lab : Nat → List Nat} {i j : Nat} (h : Cst w wr P rl b0 g m A K lab i j) (hj : j = (rth rl i).cells.length) : Cst w wr P rl b0 g m A K lab (i + 1) 0 :=
  ⟨h.bel, h.way, h.base, h.rowc, fun k hk => (h.cells k hk).congr (by
    by_cases e : k < i
    · rw [if_pos e, if_pos (by omega)]
    · by_cases e2 : k = i
      · subst e2
        rw [if_neg e, if_pos rfl, if_pos (by omega), hj]
      · rw [if_neg e, if_neg e2, if_neg (by omega)]
        split <;> rfl)⟩
/-- A box more. -/
theorem Cst.keep {w wr w' : World} {P : Nat → Prop} {rl : List Ro} {b0 g m : Nat} {A : Nat → Option Addr} {K : Nat → Nat} {lab : Nat → List Nat} {i j : Nat} (h : Cst w wr P rl b0 g m A K lab i j) (hb : Below wr.heap.size wr w') (hP : ∀ k, P k → k < w.heap.size) : Cst w w' P rl b0 g m A K lab i j := by
  have hz := hb.size
  have hlt : 0 < rl.length → b0 < wr.heap.size := fun h0 => (h.way b0 (by rw [(h.base h0).1]; simp)).2.1
  refine ⟨h.bel.trans (hb.mono h.bel.size), fun b hb' => ?_, fun h0 => ⟨(h.base h0).1, fun i => (World.frozen?_of_block (w := wr) (a := ⟨b0, i, none⟩) (hb.block b0 (hlt h0))).trans ((h.base h0).2 i)⟩, fun k hk => (h.rowc k hk).keep (hb.block b0 (hlt (by omega))), fun k hk => (h.cells k hk).keep (fun b h1 _ => ⟨rfl, hb.block b (h.way b h1).2.1⟩) (fun k hk => hb.block k (by have := hP k hk; have := h.bel.size; omega))⟩
  obtain ⟨a1, a2, a3⟩ := h.way b hb'
  exact ⟨a1, by omega, a3⟩
/-- A value has been copied and laid down. -/
theorem Cst.step {w wr w1 : World} {P : Nat → Prop} {rl : List Ro} {b0 g m : Nat} {A : Nat → Option Addr} {K : Nat → Nat} {lab : Nat → List Nat} {i j b off : Nat} (h : Cst w wr P rl b0 g m A K lab i j) (hi : i < rl.length) (hj : j < (rth rl i).cells.length) (hA : A i = some ⟨b, off, none⟩)
    (hP : ∀ k, P k → k < w.heap.size) (hg : w.heap.size ≤ g) (hm : w.heap.size ≤ m) (hgz : g < wr.heap.size) (hmz : m < wr.heap.size) (has : Aside (fun b => b = g ∨ b = m) wr w1) {lab1 : Nat → List Nat} (hl1 : ∀ b, lab1 b ≠ [] → wr.heap.size ≤ b ∧ b < w1.heap.size) {d0 d1 d2 d3 d4 : Value}
    (hL : LRep w1 lab1 [] (cth (rth rl i).cells j).val (.agg #[d0, d1, d2, d3, d4])) (hR : Rep w1 (fun b => wr.heap.size ≤ b ∧ b < w1.heap.size) (cth (rth rl i).cells j).val (.agg #[d0, d1, d2, d3, d4])) :
    ∃ lab', Cst w (put5 w1 b (off + j * 6 + 1) d0 d1 d2 d3 d4) P rl b0 g m A K lab' i (j + 1) := by
  have hz := has.size
  have hwz := h.bel.size
  have h0 : 0 < rl.length := by omega
  have hb0 := (h.base h0).1
  have hb0w := h.way b0 (by rw [hb0]; simp)
  obtain ⟨lab', hlab'⟩ : ∃ lab' : Nat → List Nat, lab' = fun b => if wr.heap.size ≤ b ∧ b < w1.heap.size then lab1 b ++ [j + 2, i + 2] else lab b := ⟨_, rfl⟩
  have hin : ∀ b, wr.heap.size ≤ b ∧ b < w1.heap.size → lab' b = lab1 b ++ [j + 2, i + 2] := fun b hb => by rw [hlab']; exact if_pos hb
  have hout : ∀ b, ¬ (wr.heap.size ≤ b ∧ b < w1.heap.size) → lab' b = lab b := fun b hb => by rw [hlab']; exact if_neg hb
  have hold : ∀ c, lab c ≠ [] → lab' c = lab c ∧ w1.heap[c]? = wr.heap[c]? := fun c hc => by
    obtain ⟨a1, a2, a3, a4⟩ := h.way c hc
    exact ⟨hout c (by omega), has.block c a2 (fun h => h.elim a3 a4)⟩
  have hPk : ∀ k, P k → w1.heap[k]? = wr.heap[k]? := fun k hk => has.block k (by have := hP k hk; omega) (by have := hP k hk; omega)
  have hMi := h.cells i hi
  rw [hA] at hMi
  rw [if_neg (Nat.lt_irrefl i), if_pos rfl] at hMi
  have hbl : lab b = [1, i + 2] := by
    obtain ⟨b', off', e1, e2, -⟩ := hMi (by omega)
    simp only [Option.some.injEq, Addr.mk.injEq, and_true] at e1
    rw [e1.1]; exact e2
  have hbw := h.way b (by rw [hbl]; simp)
  have hbb0 : b0 ≠ b := fun e => by rw [e, hbl] at hb0; simp at hb0
  have hblk := put5_block w1 b (off + j * 6 + 1) d0 d1 d2 d3 d4
  have hpz := put5_size w1 b (off + j * 6 + 1) d0 d1 d2 d3 d4
  have bel1 : Below w.heap.size w w1 := ⟨has.os.trans h.bel.os, has.tape.trans h.bel.tape, has.output.trans h.bel.output, by omega, fun k hk => (has.block k (by omega) (by omega)).trans (h.bel.block k hk)⟩
  have hbl0 : (put5 w1 b (off + j * 6 + 1) d0 d1 d2 d3 d4).heap[b0]? = wr.heap[b0]? := (hblk b0 hbb0).trans (hold b0 (by rw [hb0]; simp)).2
  refine ⟨lab', put5_below bel1 hbw.1 _ _ _ _ _ _, fun c hc => ?_, fun _ => ⟨(hold b0 (by rw [hb0]; simp)).1.trans hb0, fun i => (World.frozen?_of_block (w := wr) (a := ⟨b0, i, none⟩) hbl0).trans ((h.base h0).2 i)⟩, fun k hk => (h.rowc k hk).keep hbl0, fun k hk => ?_⟩
  · rw [hpz]
    by_cases e : wr.heap.size ≤ c ∧ c < w1.heap.size
    · exact ⟨by omega, by omega, by omega, by omega⟩
    · rw [hout c e] at hc
      obtain ⟨a1, a2, a3⟩ := h.way c hc
      exact ⟨a1, by omega, a3⟩
  · by_cases e : k = i
    · subst e
      rw [if_neg (Nat.lt_irrefl k), if_pos rfl, hA]
      have h1 : MCells w1 lab' [k + 2] P (rth rl k).cells j (some ⟨b, off, none⟩) := hMi.keep (fun c k1 _ => hold c k1) hPk
      refine h1.put hj ?_ ?_ (fun k' hk' => by have := hP k' hk'; omega)
      · have := hL.relabel (lab' := lab') (q := [j + 2, k + 2]) (fun c hc => hin c (hl1 c hc))
        exact this
      · exact hR.sub fun c hc => by rw [hin c hc]; exact List.suffix_append _ _
    · have hk' := h.cells k hk
      have hd : (if k < i then (rth rl k).cells.length else if k = i then j + 1 else 0) = (if k < i then (rth rl k).cells.length else if k = i then j else 0) := by rw [if_neg e, if_neg e]
      rw [hd]
      refine hk'.keep (fun c k1 k2 => ⟨(hold c k1).1, (hblk c (fun ec => ?_)).trans (hold c k1).2⟩) (fun k' hk' => (hblk k' (by have := hP k' hk'; omega)).trans (hPk k' hk'))
      rw [ec, hbl] at k2
      have := k2.length_le
      have h2 := List.suffix_of_suffix_length_le k2 (List.suffix_cons 1 [i + 2]) (by simp)
      have h3 := h2.eq_of_length (by simp)
      simp at h3
      omega

/-- All has been copied. -/
theorem Cst.done {w wr : World} {P : Nat → Prop} {rl : List Ro} {b0 g m : Nat} {A : Nat → Option Addr} {K : Nat → Nat} {lab : Nat → List Nat} (h : Cst w wr P rl b0 g m A K lab rl.length 0) (a : Option Addr) (ha : 0 < rl.length → a = some ⟨b0, 0, none⟩) (hK : ∀ k, k < rl.length → (rth rl k).cells.length ≤ K k) (hlen : 48 * rl.length ≤ 281474976710656) (hcl : ∀ k, k < rl.length → 96 * (rth rl k).cells.length ≤ 281474976710656 ∧ (rth rl k).type.size ≤ maxLen) :
    LRows wr lab [] rl a ∧ RoReps wr (fun b => w.heap.size ≤ b ∧ b < wr.heap.size) rl a := by
  have hcd : ∀ k, k < rl.length → MCells wr lab [k + 2] P (rth rl k).cells (rth rl k).cells.length (A k) := fun k hk => (h.cells k hk).congr (if_pos hk)
  have hrow : ∀ k, k < rl.length → ∀ mm, mm < 3 → wr.cell? ⟨b0, 0 + k * 3 + mm, none⟩ = some ([Value.string (rth rl k).type, .int .i64 (rth rl k).id, .slice (A k) (rth rl k).cells.length (K k)].getD mm undef) := fun k hk mm hmm => by
    obtain ⟨r0, r1, r2⟩ := h.rowc k hk
    rw [Nat.zero_add]
    have : mm = 0 ∨ mm = 1 ∨ mm = 2 := by omega
    rcases this with rfl | rfl | rfl
    · exact r0
    · exact r1
    · exact r2
  refine ⟨fun h0 => ⟨b0, 0, ha h0, (h.base h0).1, (h.base h0).2, fun k mm => [Value.string (rth rl k).type, .int .i64 (rth rl k).id, .slice (A k) (rth rl k).cells.length (K k)].getD mm undef, hrow, fun k hk => ⟨rfl, rfl, A k, K k, rfl, fun h1 => ?_⟩⟩, hlen, fun k mm => [Value.string (rth rl k).type, .int .i64 (rth rl k).id, .slice (A k) (rth rl k).cells.length (K k)].getD mm undef, fun h0 => ⟨b0, 0, ha h0, ?_, hrow⟩, fun k hk => ⟨A k, K k, rfl, ⟨(hcl k hk).1, ?_⟩, hK k hk, (hcl k hk).2⟩⟩
  · obtain ⟨b, off, e1, e2, e3, e4⟩ := hcd k hk h1
    exact ⟨b, off, e1, e2, e3, (GRow.done e4).congr fun i c _ hE => hE.1⟩
  · have := h.way b0 (by rw [(h.base h0).1]; simp)
    exact ⟨this.1, this.2.1⟩
  · by_cases h1 : 0 < (rth rl k).cells.length
    · obtain ⟨b, off, e1, e2, e3, e4⟩ := hcd k hk h1
      obtain ⟨C, c1, c2⟩ := GRow.done e4
      refine ⟨C, fun _ => ⟨b, off, e1, ?_, c1⟩, fun i hi => ?_⟩
      · have := h.way b (by rw [e2]; simp)
        exact ⟨this.1, this.2.1⟩
      · obtain ⟨q1, q2, q3⟩ := c2 i hi
        exact ⟨_, _, _, _, _, by rw [q1.1], q2.sub fun b hb => by have := h.way b (suffix_ne hb); exact ⟨this.1, this.2.1⟩, q3⟩
    · exact ⟨fun _ _ => undef, fun h2 => absurd h2 h1, fun i hi => by omega⟩
/-- Before the first copy. -/
theorem Cst.start {w wr : World} {P : Nat → Prop} {rl : List Ro} {a : Option Addr} {g m : Nat} {lab : Nat → List Nat} (hb : Below w.heap.size w wr) (hl : ∀ b, lab b ≠ [] → w.heap.size ≤ b ∧ b < wr.heap.size ∧ b ≠ g ∧ b ≠ m) (h : SRows wr lab P rl a) :
    ∃ (b0 : Nat) (A : Nat → Option Addr) (K : Nat → Nat), (0 < rl.length → a = some ⟨b0, 0, none⟩) ∧ (∀ k, k < rl.length → (rth rl k).cells.length ≤ K k ∧ (rth rl k).type.size ≤ maxLen) ∧ Cst w wr P rl b0 g m A K lab 0 0 := by
  by_cases h0 : 0 < rl.length
  · obtain ⟨b0, e1, e2, e3, C, c1, c2⟩ := h h0
    have c3 : ∀ k, ∃ (q : Option Addr × Nat), k < rl.length → C k 0 = .string (rth rl k).type ∧ C k 1 = .int .i64 (rth rl k).id ∧ C k 2 = .slice q.1 (rth rl k).cells.length q.2 ∧ (rth rl k).cells.length ≤ q.2 ∧ (rth rl k).type.size ≤ maxLen ∧ SCells wr lab [k + 2] P (rth rl k).cells q.1 := fun k => by
      by_cases hk : k < rl.length
      · obtain ⟨f1, f2, ca, cc, f3, f4, f5, f6⟩ := c2 k hk
        exact ⟨(ca, cc), fun _ => ⟨f1, f2, f3, f4, f5, f6⟩⟩
      · exact ⟨(none, 0), fun h => absurd h hk⟩
    obtain ⟨Q, hQ⟩ := Classical.skolem.1 c3
    refine ⟨b0, fun k => (Q k).1, fun k => (Q k).2, fun _ => e1, fun k hk => ⟨(hQ k hk).2.2.2.1, (hQ k hk).2.2.2.2.1⟩, hb, hl, fun _ => ⟨e2, e3⟩, fun k hk => ?_, fun k hk h1 => ?_⟩
    · obtain ⟨f1, f2, f3, -⟩ := hQ k hk
      have r : ∀ mm, mm < 3 → wr.cell? ⟨b0, k * 3 + mm, none⟩ = some (C k mm) := fun mm hmm => by have := c1 k hk mm hmm; rw [Nat.zero_add] at this; exact this
      refine ⟨?_, ?_, ?_⟩
      · have := r 0 (by omega); rw [f1] at this; exact this
      · have := r 1 (by omega); rw [f2] at this; exact this
      · have := r 2 (by omega); rw [f3] at this; exact this
    · obtain ⟨b, off, g1, g2, g3, g4⟩ := (hQ k hk).2.2.2.2.2 h1
      refine ⟨b, off, g1, g2, g3, ?_⟩
      have e : (if k < 0 then (rth rl k).cells.length else if k = 0 then 0 else 0) = 0 := by simp
      rw [e]
      exact g4.start
  · exact ⟨0, fun _ => none, fun _ => 0, fun h => absurd h h0, fun k hk => by omega, hb, hl, fun h => absurd h h0, fun k hk => by omega, fun k hk => by omega⟩
end Go.Proofs.YtbpdchlbhfjddaaGreat
