/-
  The program's PartField.
-/
import Derived.Test.YtcpflkbbjlonbaaIWrite
import Derived.Test.YtcpflkbbjlonbaaICopyT
namespace Go.Proofs.Ytcpflkbbjlonbaa
set_option linter.unusedSimpArgs false
set_option linter.unusedVariables false
open Go.RowKit

/-- The field that PartField answers, and whether it is there. -/
def fieldAns (p : Pt) (s f : ByteArray) : F := if okP p = true then (if 0 ≤ typeIx p s then fieldOr (typeOr p s) f else F.zero) else F.zero
def fieldOkB (p : Pt) (s f : ByteArray) : Bool := okP p && (decide (0 ≤ typeIx p s) && decide (0 ≤ fieldIx (typeOr p s) f))

theorem typeOr_sz (p : Pt) (s : ByteArray) (hz : szP p ≤ 1048576) : szFs (typeOr p s).fields ≤ 1048576 := by
  unfold typeOr
  split
  · refine fields_small _ ?_ _
    have : szP p = p.name.size + szTs p.types := rfl
    omega
  · decide
theorem fieldOr_needs (t : T) (f : ByteArray) (h : szFs t.fields ≤ 1048576) : (fieldOr t f).needs.length ≤ 1048576 := by
  unfold fieldOr
  split
  · exact needs_small _ h _
  · simp [F.zero]
theorem fieldAns_needs (p : Pt) (s f : ByteArray) (hz : szP p ≤ 1048576) : (fieldAns p s f).needs.length ≤ 1048576 := by
  unfold fieldAns
  split
  · split
    · exact fieldOr_needs _ _ (typeOr_sz p s hz)
    · simp [F.zero]
  · simp [F.zero]

/-- What a call of PartField leaves: the field in new memory that may be written. -/
def FieldNew (w w' : World) (f : F) (ok : Bool) (e : Ending) : Prop := ∃ (nm of : ByteArray) (l m fr hi sh : Bool) (na : Option Addr) (nc : Nat),
  e = .returned (.tuple #[.agg #[.string nm, .string of, .bool l, .bool m, .bool fr, .bool hi, .bool sh, .slice na f.needs.length nc], .bool ok]) ∧ Below w.heap.size w w' ∧
  FRep w' (fun b => w.heap.size ≤ b ∧ b < w'.heap.size) f (.agg #[.string nm, .string of, .bool l, .bool m, .bool fr, .bool hi, .bool sh, .slice na f.needs.length nc]) ∧ WStrs w' w.heap.size w'.heap.size f.needs.length na

theorem below_sets {B N : Nat} {a w : World} (h : Below B a w) (hN : B ≤ N) (v0 v1 v2 v3 v4 v5 v6 v7 : Value) :
    Below B a ((((((((w.setCell ⟨N, 0, none⟩ v0).setCell ⟨N, 1, none⟩ v1).setCell ⟨N, 2, none⟩ v2).setCell ⟨N, 3, none⟩ v3).setCell ⟨N, 4, none⟩ v4).setCell ⟨N, 5, none⟩ v5).setCell ⟨N, 6, none⟩ v6).setCell ⟨N, 7, none⟩ v7) :=
  puts_below hN [v0, v1, v2, v3, v4, v5, v6, v7] w 0 h
theorem sets_block {N b : Nat} (h : b ≠ N) (w : World) (v0 v1 v2 v3 v4 v5 v6 v7 : Value) :
    ((((((((w.setCell ⟨N, 0, none⟩ v0).setCell ⟨N, 1, none⟩ v1).setCell ⟨N, 2, none⟩ v2).setCell ⟨N, 3, none⟩ v3).setCell ⟨N, 4, none⟩ v4).setCell ⟨N, 5, none⟩ v5).setCell ⟨N, 6, none⟩ v6).setCell ⟨N, 7, none⟩ v7).heap[b]? = w.heap[b]? :=
  puts_block N b h [v0, v1, v2, v3, v4, v5, v6, v7] w 0
theorem sets_size {N : Nat} (w : World) (v0 v1 v2 v3 v4 v5 v6 v7 : Value) :
    ((((((((w.setCell ⟨N, 0, none⟩ v0).setCell ⟨N, 1, none⟩ v1).setCell ⟨N, 2, none⟩ v2).setCell ⟨N, 3, none⟩ v3).setCell ⟨N, 4, none⟩ v4).setCell ⟨N, 5, none⟩ v5).setCell ⟨N, 6, none⟩ v6).setCell ⟨N, 7, none⟩ v7).heap.size = w.heap.size :=
  puts_size N [v0, v1, v2, v3, v4, v5, v6, v7] w 0
theorem sets_cells {w : World} {N : Nat} {c : Array Value} {T : TypeId} (hb : w.heap[N]? = some (.cells c T (0, 0))) (hc : c.size = 8) (v0 v1 v2 v3 v4 v5 v6 v7 : Value) (W : World)
    (hW : W.heap[N]? = ((((((((w.setCell ⟨N, 0, none⟩ v0).setCell ⟨N, 1, none⟩ v1).setCell ⟨N, 2, none⟩ v2).setCell ⟨N, 3, none⟩ v3).setCell ⟨N, 4, none⟩ v4).setCell ⟨N, 5, none⟩ v5).setCell ⟨N, 6, none⟩ v6).setCell ⟨N, 7, none⟩ v7).heap[N]?) :
    W.cell? ⟨N, 0, none⟩ = some v0 ∧ W.cell? ⟨N, 1, none⟩ = some v1 ∧ W.cell? ⟨N, 2, none⟩ = some v2 ∧ W.cell? ⟨N, 3, none⟩ = some v3 ∧ W.cell? ⟨N, 4, none⟩ = some v4 ∧ W.cell? ⟨N, 5, none⟩ = some v5 ∧ W.cell? ⟨N, 6, none⟩ = some v6 ∧ W.cell? ⟨N, 7, none⟩ = some v7 := by
  have hrow : w.rowIs N T 8 (fun i => c[i]?.getD undef) := ⟨c, hb, hc, fun i hi => by simp [show i < c.size by omega]⟩
  obtain ⟨G', hG, hG1, -⟩ := puts_row [v0, v1, v2, v3, v4, v5, v6, v7] 0 hrow
  have hG2 : W.rowIs N T 8 G' := hG.of_block hW
  have g : ∀ j, j < 8 → W.cell? ⟨N, j, none⟩ = some ([v0, v1, v2, v3, v4, v5, v6, v7].getD j undef) := fun j hj => by
    have := hG1 j hj
    rw [Nat.zero_add] at this
    rw [hG2.cell hj, this]
  exact ⟨g 0 (by omega), g 1 (by omega), g 2 (by omega), g 3 (by omega), g 4 (by omega), g 5 (by omega), g 6 (by omega), g 7 (by omega)⟩
theorem fieldResult (FW : World) (tmps : Array Value) (N : Nat) (ok : Bool) (v0 v1 v2 v3 v4 v5 v6 v7 : Value) (h6 : tmps.getD 6 undef = .pointer (some ⟨N, 0, none⟩)) (h7 : tmps.getD 7 undef = .bool ok)
    (d0 : FW.cell? ⟨N, 0, none⟩ = some v0) (d1 : FW.cell? ⟨N, 1, none⟩ = some v1) (d2 : FW.cell? ⟨N, 2, none⟩ = some v2) (d3 : FW.cell? ⟨N, 3, none⟩ = some v3) (d4 : FW.cell? ⟨N, 4, none⟩ = some v4) (d5 : FW.cell? ⟨N, 5, none⟩ = some v5) (d6 : FW.cell? ⟨N, 6, none⟩ = some v6) (d7 : FW.cell? ⟨N, 7, none⟩ = some v7) :
    (results Try.f12 tmps).run Try.prog FW = .ok (.tuple #[.agg #[v0, v1, v2, v3, v4, v5, v6, v7], .bool ok]) FW := by
  simp only [Array.getD_eq_getD_getElem?] at h6 h7
  simp [results, Try.results12, go_sem, h6, h7, d0, d1, d2, d3, d4, d5, d6, d7]
theorem WStrs.mono {w w' : World} {lo hi n : Nat} {a : Option Addr} (h : WStrs w lo hi n a) (e : ∀ b, lo ≤ b → b < hi → w'.heap[b]? = w.heap[b]?) : WStrs w' lo hi n a := fun hn => by
  obtain ⟨b, off, ha, h1, h2, hc⟩ := h hn
  refine ⟨b, off, ha, h1, h2, fun i hi => ?_⟩
  obtain ⟨⟨s, hs⟩, hf⟩ := hc i hi
  exact ⟨⟨s, (World.cell?_of_block (w := w) (a := ⟨b, off + i, none⟩) (e b h1 h2)).trans hs⟩, (World.frozen?_of_block (w := w) (e b h1 h2)).trans hf⟩
theorem WStrs.wide {w : World} {lo hi lo' hi' n : Nat} {a : Option Addr} (h : WStrs w lo hi n a) (h1 : lo' ≤ lo) (h2 : hi ≤ hi') : WStrs w lo' hi' n a := fun hn => by
  obtain ⟨b, off, ha, x1, x2, hc⟩ := h hn
  exact ⟨b, off, ha, by omega, by omega, hc⟩

set_option maxRecDepth 20000 in
set_option maxHeartbeats 3200000 in
theorem PartFieldI_any (p : Pt) (s f : ByteArray) (w : World) (B : Nat) (v : Value) (hP : PRep w (· < B) p v) (hB : B ≤ w.heap.size) (hz : szP p ≤ 1048576) :
    Calls Try.prog 12 #[v, .string s, .string f] w fun e w' => FieldNew w w' (fieldAns p s f) (fieldOkB p s f) e := by
  have hP' := hP
  have hfs := typeOr_sz p s hz
  have hfn := fieldOr_needs (typeOr p s) f hfs
  obtain ⟨pname, types⟩ := p
  obtain ⟨ta, tc, rfl, hK, hnc, hpn⟩ := hP
  simp only at hK hnc hpn hP'
  obtain ⟨X, hXe⟩ : ∃ X, X = ((w.alloc (.cells #[.string pname, .slice ta types.length tc] 29)).alloc (.cells #[.string ByteArray.empty, .string ByteArray.empty, .bool false, .bool false, .bool false, .bool false, .bool false, .slice none 0 0] 35)) := ⟨_, rfl⟩
  have PC : ∀ W, Below (w.heap.size + 1 + 1) X W → W.cell? ⟨w.heap.size, 0, none⟩ = some (.string pname) ∧ W.cell? ⟨w.heap.size, 1, none⟩ = some (.slice ta types.length tc) ∧ W.heap[w.heap.size + 1]? = some (.cells #[.string ByteArray.empty, .string ByteArray.empty, .bool false, .bool false, .bool false, .bool false, .bool false, .slice none 0 0] 35 (0, 0)) ∧ Below w.heap.size w W ∧ w.heap.size + 1 < W.heap.size := fun W h => by
    subst hXe
    have hz := h.size
    simp at hz
    have a : ∀ i (hi : i < 2), W.cell? ⟨w.heap.size, i, none⟩ = some #[Value.string pname, .slice ta types.length tc][i] := fun i hi => (h.cell (p := ⟨w.heap.size, i, none⟩) (by show w.heap.size < _; omega)).trans (((below_box _ _).cell (p := ⟨w.heap.size, i, none⟩) (by show w.heap.size < _; simp)).trans (box_new _ _ i (by simpa using hi)))
    have hb : W.heap[w.heap.size + 1]? = some (.cells #[.string ByteArray.empty, .string ByteArray.empty, .bool false, .bool false, .bool false, .bool false, .bool false, .slice none 0 0] 35 (0, 0)) := (h.block (w.heap.size + 1) (by omega)).trans (by have := heap_alloc_new (w.alloc (.cells #[.string pname, .slice ta types.length tc] 29)) (.cells #[.string ByteArray.empty, .string ByteArray.empty, .bool false, .bool false, .bool false, .bool false, .bool false, .slice none 0 0] 35); simpa using this)
    exact ⟨a 0 (by omega), a 1 (by omega), hb, (below_box2 w _ _).trans (h.mono (by omega)), by omega⟩
  have hT0 : Below (w.heap.size + 1 + 1) X ((w.alloc (.cells #[.string pname, .slice ta types.length tc] 29)).alloc (.cells #[.string ByteArray.empty, .string ByteArray.empty, .bool false, .bool false, .bool false, .bool false, .bool false, .slice none 0 0] 35)) := by rw [hXe]; exact Below.refl _ _
  clear hXe
  have hBW := fun W (h : Below (w.heap.size + 1 + 1) X W) => show B ≤ W.heap.size by have := (PC W h).2.2.2.2; omega
  have hC := fun W h => checkPart_any ⟨pname, types⟩ W B _ (hP'.under ((PC W h).2.2.2.1.mono hB)) (hBW W h) hz
  have hF := fun W h => findType_any ⟨pname, types⟩ W B _ s (hP'.under ((PC W h).2.2.2.1.mono hB)) (hBW W h)
  cases ho : okP ⟨pname, types⟩
  · have HA : Hid (fieldAns ⟨pname, types⟩ s f = F.zero ∧ fieldOkB ⟨pname, types⟩ s f = false) := ⟨by rw [fieldAns, if_neg (by rw [ho]; simp)], by rw [fieldOkB, ho]; rfl⟩
    rcases partErr_bad _ ho with ⟨x, hx⟩ | ⟨i, x, hx⟩ <;> rw [hx] at hC
    all_goals
      clear hF hfs hfn
      go_enter Try.func12, Try.ntmps12
      go_wp2_with (
        go_at_call 26
        refine (hC _ hT0).mono ?_
        rintro e w1 ⟨rfl, hb1⟩
        have hT1 := hT0.trans (hb1.mono (by simp))
        obtain ⟨q0, q1, hbx, hw1, hz1⟩ := PC w1 hT1
        obtain ⟨a0, b0⟩ := box_at hbx 0 (by simp)
        obtain ⟨a1, b1⟩ := box_at hbx 1 (by simp)
        obtain ⟨a2, b2⟩ := box_at hbx 2 (by simp)
        obtain ⟨a3, b3⟩ := box_at hbx 3 (by simp)
        obtain ⟨a4, b4⟩ := box_at hbx 4 (by simp)
        obtain ⟨a5, b5⟩ := box_at hbx 5 (by simp)
        obtain ⟨a6, b6⟩ := box_at hbx 6 (by simp)
        obtain ⟨a7, b7⟩ := box_at hbx 7 (by simp))
      obtain ⟨d0, d1, d2, d3, d4, d5, d6, d7⟩ := sets_cells hbx rfl (.string ⟨#[]⟩) (.string ⟨#[]⟩) (.bool false) (.bool false) (.bool false) (.bool false) (.bool false) (.slice none 0 0) _ rfl
      refine bodyPost_ret (fieldResult _ _ (w.heap.size + 1) false (.string ⟨#[]⟩) (.string ⟨#[]⟩) (.bool false) (.bool false) (.bool false) (.bool false) (.bool false) (.slice none 0 0) rfl rfl d0 d1 d2 d3 d4 d5 d6 d7) rfl ?_
      rw [HA.out.1, HA.out.2]
      exact ⟨_, _, _, _, _, _, _, _, _, rfl, below_sets hw1 (Nat.le_succ _) _ _ _ _ _ _ _ _, FRep.zero _ _, fun h => by simp [F.zero] at h⟩
  have HO : Hid (okP ⟨pname, types⟩ = true) := ho
  rw [partErr_ok _ ho] at hC
  cases hx : decide (0 ≤ typeIx ⟨pname, types⟩ s)
  · have HA : Hid (fieldAns ⟨pname, types⟩ s f = F.zero ∧ fieldOkB ⟨pname, types⟩ s f = false) := ⟨by rw [fieldAns, if_pos HO.out, if_neg (by simpa using hx)], by rw [fieldOkB, hx]; simp⟩
    rw [hx] at hF
    clear hfs hfn ho
    go_enter Try.func12, Try.ntmps12
    go_wp2_with (first
      | (
        go_at_call 26
        refine (hC _ hT0).mono ?_
        rintro e w1 ⟨rfl, hb1⟩
        have hT1 := hT0.trans (hb1.mono (by simp))
        obtain ⟨q0, q1, -, hw1, hz1⟩ := PC w1 hT1)
      | (
        go_at_call 32
        refine (hF w1 hT1).mono ?_
        rintro e w2 ⟨tn, tk, fa, fl, fc, rfl, hb2, -⟩
        have hT2 := hT1.trans (hb2.mono (by omega))
        obtain ⟨-, -, hbx, hw2, hz2⟩ := PC w2 hT2
        obtain ⟨a0, b0⟩ := box_at hbx 0 (by simp)
        obtain ⟨a1, b1⟩ := box_at hbx 1 (by simp)
        obtain ⟨a2, b2⟩ := box_at hbx 2 (by simp)
        obtain ⟨a3, b3⟩ := box_at hbx 3 (by simp)
        obtain ⟨a4, b4⟩ := box_at hbx 4 (by simp)
        obtain ⟨a5, b5⟩ := box_at hbx 5 (by simp)
        obtain ⟨a6, b6⟩ := box_at hbx 6 (by simp)
        obtain ⟨a7, b7⟩ := box_at hbx 7 (by simp)))
    obtain ⟨d0, d1, d2, d3, d4, d5, d6, d7⟩ := sets_cells hbx rfl (.string ⟨#[]⟩) (.string ⟨#[]⟩) (.bool false) (.bool false) (.bool false) (.bool false) (.bool false) (.slice none 0 0) _ (Below.heap_alloc _ (.cells #[.string tn, .string tk, .slice fa fl fc] 59) _ (by rw [sets_size]; omega))
    refine bodyPost_ret (fieldResult _ _ (w.heap.size + 1) false (.string ⟨#[]⟩) (.string ⟨#[]⟩) (.bool false) (.bool false) (.bool false) (.bool false) (.bool false) (.slice none 0 0) rfl rfl d0 d1 d2 d3 d4 d5 d6 d7) rfl ?_
    rw [HA.out.1, HA.out.2]
    exact ⟨_, _, _, _, _, _, _, _, _, rfl, (below_sets hw2 (Nat.le_succ _) _ _ _ _ _ _ _ _).alloc (by rw [sets_size]; omega) _, FRep.zero _ _, fun h => by simp [F.zero] at h⟩
  have HA : Hid (fieldAns ⟨pname, types⟩ s f = fieldOr (typeOr ⟨pname, types⟩ s) f ∧ fieldOkB ⟨pname, types⟩ s f = decide (0 ≤ fieldIx (typeOr ⟨pname, types⟩ s) f)) := ⟨by rw [fieldAns, if_pos HO.out, if_pos (by simpa using hx)], by rw [fieldOkB, hx, HO.out]; rfl⟩
  rw [hx] at hF
  clear ho hfs
  generalize typeOr ⟨pname, types⟩ s = tt at *
  go_enter Try.func12, Try.ntmps12
  go_wp2_with (first
    | (
      go_at_call 26
      refine (hC _ hT0).mono ?_
      rintro e w1 ⟨rfl, hb1⟩
      have hT1 := hT0.trans (hb1.mono (by simp))
      obtain ⟨q0, q1, -, hw1, hz1⟩ := PC w1 hT1)
    | (
      go_at_call 32
      refine (hF w1 hT1).mono ?_
      rintro e w2 ⟨tn, tk, fa, fl, fc, rfl, hb2, htr⟩
      have hT2 := hT1.trans (hb2.mono (by omega))
      obtain ⟨-, -, -, hw2, hz2⟩ := PC w2 hT2))
  have hT3 := hT2.alloc (by omega) (.cells #[.string tn, .string tk, .slice fa fl fc] 59)
  refine (findField_any tt (w2.alloc (.cells #[.string tn, .string tk, .slice fa fl fc] 59)) B _ f (htr.under ((below_box w2 _).mono (by omega))) (by simp; omega)).mono ?_
  rintro e w3 ⟨nm, of, l, m, fr, hi, sh, na, nl, nc, rfl, hb3, hfr⟩
  have hT4 := hT3.trans (hb3.mono (by simp; omega))
  obtain ⟨-, -, -, hw3, hz3⟩ := PC w3 hT4
  have hB3 := hBW w3 hT4
  have hfr' := hfr
  obtain ⟨na', nc', hv, hS, hcap, hs0, hs1, h16⟩ := hfr
  simp only [Value.agg.injEq, Array.mk.injEq, List.cons.injEq, Value.string.injEq, Value.bool.injEq, Value.slice.injEq, and_true] at hv
  obtain ⟨rfl, rfl, rfl, rfl, rfl, rfl, rfl, rfl, rfl, rfl⟩ := hv
  generalize fieldOr tt f = ff at *
  go_wp2_with fail
  have hal := heap_alloc_new w3 (.cells #[.string ff.name, .string ff.of, .bool ff.list, .bool ff.must, .bool ff.far, .bool ff.hidden, .bool ff.shared, .slice na ff.needs.length nc] 35)
  have hsa : (w3.alloc (.cells #[.string ff.name, .string ff.of, .bool ff.list, .bool ff.must, .bool ff.far, .bool ff.hidden, .bool ff.shared, .slice na ff.needs.length nc] 35)).heap.size = w3.heap.size + 1 := by simp
  refine (copyTexts_any ff.needs na nc (w3.alloc (.cells #[.string ff.name, .string ff.of, .bool ff.list, .bool ff.must, .bool ff.far, .bool ff.hidden, .bool ff.shared, .slice na ff.needs.length nc] 35)) (· < B) (hS.mono fun k hk => Below.heap_alloc _ _ _ (by omega)) (by omega)).mono ?_
  rintro e w4 ⟨a', c', rfl, hc4, hb4, hS4, hW4⟩
  have hT5 := (hT4.alloc (by omega) (.cells #[.string ff.name, .string ff.of, .bool ff.list, .bool ff.must, .bool ff.far, .bool ff.hidden, .bool ff.shared, .slice na ff.needs.length nc] 35)).trans (hb4.mono (by rw [hsa]; omega))
  obtain ⟨-, -, hbx4, hw4, hz4⟩ := PC w4 hT5
  have hz4' := hb4.size
  rw [hsa] at hz4' hb4 hS4 hW4
  have hF4 := (hb4.block w3.heap.size (by omega)).trans hal
  have hbx : (w4.setCell ⟨w3.heap.size, 7, none⟩ (.slice a' ff.needs.length c')).heap[w.heap.size + 1]? = some (.cells #[.string ByteArray.empty, .string ByteArray.empty, .bool false, .bool false, .bool false, .bool false, .bool false, .slice none 0 0] 35 (0, 0)) := (Below.heap_setCell _ _ _ _ (by show w.heap.size + 1 ≠ w3.heap.size; omega)).trans hbx4
  obtain ⟨g7, z7⟩ := box_at hF4 7 (by simp)
  have hg : ∀ j, j < 7 → (w4.setCell ⟨w3.heap.size, 7, none⟩ (.slice a' ff.needs.length c')).cell? ⟨w3.heap.size, j, none⟩ = w4.cell? ⟨w3.heap.size, j, none⟩ := fun j hj => World.cell?_setCell_other _ _ _ _ (by intro e; simp only [Addr.mk.injEq] at e; omega)
  have c0 := (hg 0 (by omega)).trans (box_at hF4 0 (by simp)).1
  have c1 := (hg 1 (by omega)).trans (box_at hF4 1 (by simp)).1
  have c2 := (hg 2 (by omega)).trans (box_at hF4 2 (by simp)).1
  have c3 := (hg 3 (by omega)).trans (box_at hF4 3 (by simp)).1
  have c4 := (hg 4 (by omega)).trans (box_at hF4 4 (by simp)).1
  have c5 := (hg 5 (by omega)).trans (box_at hF4 5 (by simp)).1
  have c6 := (hg 6 (by omega)).trans (box_at hF4 6 (by simp)).1
  have c7 : (w4.setCell ⟨w3.heap.size, 7, none⟩ (.slice a' ff.needs.length c')).cell? ⟨w3.heap.size, 7, none⟩ = some (.slice a' ff.needs.length c') := World.cell?_setCell_same _ _ _ g7
  simp only [List.getElem_toArray, List.getElem_cons_succ, List.getElem_cons_zero] at c0 c1 c2 c3 c4 c5 c6 g7
  obtain ⟨a0, b0⟩ := box_at hbx 0 (by simp)
  obtain ⟨a1, b1⟩ := box_at hbx 1 (by simp)
  obtain ⟨a2, b2⟩ := box_at hbx 2 (by simp)
  obtain ⟨a3, b3⟩ := box_at hbx 3 (by simp)
  obtain ⟨a4, b4⟩ := box_at hbx 4 (by simp)
  obtain ⟨a5, b5⟩ := box_at hbx 5 (by simp)
  obtain ⟨a6, b6⟩ := box_at hbx 6 (by simp)
  obtain ⟨a7, b7⟩ := box_at hbx 7 (by simp)
  have HB : Hid ((w4.setCell ⟨w3.heap.size, 7, none⟩ (.slice a' ff.needs.length c')).heap[w.heap.size + 1]? = some (.cells #[.string ByteArray.empty, .string ByteArray.empty, .bool false, .bool false, .bool false, .bool false, .bool false, .slice none 0 0] 35 (0, 0))) := hbx
  clear hg hF4 hal hbx hbx4 hT5 hT4 hT3 hT2 hT1 hT0
  go_wp2_with fail
  obtain ⟨d0, d1, d2, d3, d4, d5, d6, d7⟩ := sets_cells HB.out rfl (.string ff.name) (.string ff.of) (.bool ff.list) (.bool ff.must) (.bool ff.far) (.bool ff.hidden) (.bool ff.shared) (.slice a' ff.needs.length c') _ rfl
  refine bodyPost_ret (fieldResult _ _ (w.heap.size + 1) (decide (0 ≤ fieldIx tt f)) (.string ff.name) (.string ff.of) (.bool ff.list) (.bool ff.must) (.bool ff.far) (.bool ff.hidden) (.bool ff.shared) (.slice a' ff.needs.length c') rfl rfl d0 d1 d2 d3 d4 d5 d6 d7) rfl ?_
  rw [HA.out.1, HA.out.2]
  have hblk : ∀ (k : Nat), w3.heap.size + 1 ≤ k → ∀ v0 v1 v2 v3 v4 v5 v6 v7, ((((((((((w4.setCell ⟨w3.heap.size, 7, none⟩ (.slice a' ff.needs.length c')).setCell ⟨w.heap.size + 1, 0, none⟩ v0).setCell ⟨w.heap.size + 1, 1, none⟩ v1).setCell ⟨w.heap.size + 1, 2, none⟩ v2).setCell ⟨w.heap.size + 1, 3, none⟩ v3).setCell ⟨w.heap.size + 1, 4, none⟩ v4).setCell ⟨w.heap.size + 1, 5, none⟩ v5).setCell ⟨w.heap.size + 1, 6, none⟩ v6).setCell ⟨w.heap.size + 1, 7, none⟩ v7)).heap[k]? = w4.heap[k]? := fun k hk v0 v1 v2 v3 v4 v5 v6 v7 =>
    (sets_block (by omega) _ _ _ _ _ _ _ _ _).trans (Below.heap_setCell _ _ _ _ (by show k ≠ w3.heap.size; omega))
  refine ⟨_, _, _, _, _, _, _, _, _, rfl, below_sets (hw4.setCell (by show w.heap.size ≤ w3.heap.size; omega) _) (Nat.le_succ _) _ _ _ _ _ _ _ _, ⟨a', c', rfl, (hS4.mono fun k hk => hblk k hk.1 _ _ _ _ _ _ _ _).sub fun k hk => ?_, hc4, hs0, hs1, h16⟩, (hW4.mono fun k h1 h2 => hblk k h1 _ _ _ _ _ _ _ _).wide (by omega) ?_⟩
  · rw [sets_size, size_set]; omega
  · rw [sets_size, size_set]; omega
end Go.Proofs.Ytcpflkbbjlonbaa
