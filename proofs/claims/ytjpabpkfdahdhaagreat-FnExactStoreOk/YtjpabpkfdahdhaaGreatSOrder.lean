/-
  Whether a row may stand behind others, by the program.
-/
import Derived.Test.YtjpabpkfdahdhaaGreatSKnown
import Derived.Deep.RegionHeld3
namespace Go.Proofs.YtjpabpkfdahdhaaGreat
set_option linter.unusedSimpArgs false
set_option linter.unusedVariables false
open Go.RowKit

theorem RoReps.at {w : World} {B : Nat} {rs : List Ro} {ra : Option Addr} (h : RoReps w (· < B) rs ra) (hB : B ≤ w.heap.size) (k : Nat) (hk : k < rs.length) : ∃ (b off : Nat) (ca : Option Addr) (cc : Nat), ra = some ⟨b, off, none⟩ ∧
    RoRep w (· < B) (rth rs k) (.agg #[.string (rth rs k).type, .int .i64 (rth rs k).id, .slice ca (rth rs k).cells.length cc]) ∧
    ∀ W, Below w.heap.size w W → W.cell? ⟨b, off + k * 3, none⟩ = some (.string (rth rs k).type) ∧ W.cell? ⟨b, off + k * 3 + 1, none⟩ = some (.int .i64 (rth rs k).id) ∧ W.cell? ⟨b, off + k * 3 + 2, none⟩ = some (.slice ca (rth rs k).cells.length cc) := by
  obtain ⟨-, C, hA, hr⟩ := h
  obtain ⟨b, off, rfl, hbB, hc⟩ := hA (by omega)
  have hkt := hr k hk
  obtain ⟨ca, cc, e0, e1, e2, -⟩ := (hr k hk).pieces
  rw [e0, e1, e2] at hkt
  have c : ∀ W, Below w.heap.size w W → ∀ j, j < 3 → W.cell? ⟨b, off + k * 3 + j, none⟩ = some (C k j) := fun W hb j hj => (hb.cell (p := ⟨b, off + k * 3 + j, none⟩) (by show b < _; omega)).trans (hc k hk j hj)
  exact ⟨b, off, ca, cc, rfl, hkt, fun W hb => ⟨(c W hb 0 (by omega)).trans (congrArg some e0), (c W hb 1 (by omega)).trans (congrArg some e1), (c W hb 2 (by omega)).trans (congrArg some e2)⟩⟩

/-- What three boxes hold in whatever later world. -/
theorem boxes3 {w W : World} {A1 A2 A3 : Array Value} {T1 T2 T3 : TypeId} (h : Below (w.heap.size + 1 + 1 + 1) (((w.alloc (.cells A1 T1)).alloc (.cells A2 T2)).alloc (.cells A3 T3)) W) :
    (∀ i (hi : i < A1.size), W.cell? ⟨w.heap.size, i, none⟩ = some A1[i]) ∧ (∀ i (hi : i < A2.size), W.cell? ⟨w.heap.size + 1, i, none⟩ = some A2[i]) ∧ (∀ i (hi : i < A3.size), W.cell? ⟨w.heap.size + 1 + 1, i, none⟩ = some A3[i]) ∧ Below w.heap.size w W ∧ w.heap.size + 1 + 1 < W.heap.size := by
  have hz := h.size
  simp at hz
  obtain ⟨h1, h2, h3, h4⟩ := boxes2 (w := w) (W := W) (A1 := A1) (A2 := A2) (T1 := T1) (T2 := T2) ((((Below.refl _ _).alloc (by simp) (.cells A3 T3))).trans (h.mono (by omega)))
  refine ⟨h1, h2, fun i hi => (h.cell (p := ⟨w.heap.size + 1 + 1, i, none⟩) (by show w.heap.size + 1 + 1 < _; omega)).trans ?_, h3, by omega⟩
  have := box_new (w := (w.alloc (.cells A1 T1)).alloc (.cells A2 T2)) A3 T3 i hi
  rw [show ((w.alloc (.cells A1 T1)).alloc (.cells A2 T2)).heap.size = w.heap.size + 1 + 1 by simp] at this
  exact this

set_option maxRecDepth 20000 in
set_option maxHeartbeats 1600000 in
theorem isRowInOrder_any (p : Pt) (rs : List Ro) (i : Nat) (w : World) (B : Nat) (v u : Value) (ra : Option Addr) (rc : Nat) (hP : PRep w (· < B) p v) (hRs : RoReps w (· < B) rs ra) (hi : i < rs.length) (hR : RoRep w (· < B) (rth rs i) u) (hB : B ≤ w.heap.size) :
    Calls Tryz.prog 21 #[v, .slice ra i rc, u] w fun e w' => e = .returned (.bool (ordI p rs i)) ∧ Below w.heap.size w w' := by
  have hP' := hP
  have h48 := hRs.1
  obtain ⟨name, types⟩ := p
  obtain ⟨ta, tc, rfl, -⟩ := hP
  obtain ⟨ca, cc, rfl, -⟩ := hR
  simp only at hP'
  by_cases h0 : i = 0
  · subst h0
    have HE : Hid (ordI ⟨name, types⟩ rs 0 = (isT (rth rs 0).type [113, 117, 101, 114, 121] && (rth rs 0).id == 0)) := rfl
    cases h1 : ((rth rs 0).type.toList == [113, 117, 101, 114, 121])
    all_goals
      go_enter Tryz.func21, Tryz.ntmps21
      go_wp2_with fail
      go_ret
      exact ⟨ret_bool (by rw [HE.out]; simp [isT, h1]), below_box2 w _ _⟩
  have hi0 : ((i : Int) == 0) = false := by simp; omega
  obtain ⟨j, rfl⟩ : ∃ j, i = j + 1 := ⟨i - 1, by omega⟩
  obtain ⟨b, off, ca2, cc2, rfl, -, hcs⟩ := hRs.at hB j (by omega)
  have HE : Hid (ordI ⟨name, types⟩ rs (j + 1) = if ((rth rs (j + 1)).type.toList == (rth rs j).type.toList) = true then !isT (rth rs (j + 1)).type [113, 117, 101, 114, 121] && decide ((rth rs j).id < (rth rs (j + 1)).id) else decide (tIx ⟨name, types⟩ (rth rs j).type < tIx ⟨name, types⟩ (rth rs (j + 1)).type)) := rfl
  have hjm : ((j + 1 : Nat) : Int) - 1 = (j : Int) := by omega
  obtain ⟨c0, c1, c2⟩ := hcs _ (below_box2 w (.cells #[.string name, .slice ta types.length tc] 31) (.cells #[.string (rth rs (j + 1)).type, .int .i64 (rth rs (j + 1)).id, .slice ca (rth rs (j + 1)).cells.length cc] 49))
  clear hcs
  cases h1 : ((rth rs (j + 1)).type.toList == (rth rs j).type.toList)
  · rw [h1] at HE
    generalize (rth rs (j + 1)).type = sA at HE c0 c1 c2 h1 ⊢
    generalize (rth rs j).type = sB at HE c0 c1 c2 h1 ⊢
    have hTP := fun W (hb : Below w.heap.size w W) s => typePlace_any ⟨name, types⟩ s W B _ (hP'.under (hb.mono hB)) (by have := hb.size; omega)
    obtain ⟨X, hXe⟩ : ∃ X, X = (((w.alloc (.cells #[.string name, .slice ta types.length tc] 31)).alloc (.cells #[.string sA, .int .i64 (rth rs (j + 1)).id, .slice ca (rth rs (j + 1)).cells.length cc] 49)).alloc (.cells #[.string sB, .int .i64 (rth rs j).id, .slice ca2 (rth rs j).cells.length cc2] 49)) := ⟨_, rfl⟩
    obtain ⟨N2, HN2⟩ : ∃ N2, Hid (w.heap.size + 1 + 1 = N2) := ⟨_, rfl⟩
    have TB : ∀ W, Below (w.heap.size + 1 + 1 + 1) X W → W.cell? ⟨w.heap.size, 0, none⟩ = some (.string name) ∧ W.cell? ⟨w.heap.size, 1, none⟩ = some (.slice ta types.length tc) ∧ W.cell? ⟨w.heap.size + 1, 0, none⟩ = some (.string sA) ∧ W.cell? ⟨N2, 0, none⟩ = some (.string sB) ∧ Below w.heap.size w W ∧ w.heap.size + 1 + 1 < W.heap.size := fun W h => by
      obtain ⟨h1, h2, h3, h4, h5⟩ := boxes3 (by rw [← hXe]; exact h)
      rw [← HN2.out]
      exact ⟨h1 0 (by simp), h1 1 (by simp), h2 0 (by simp), h3 0 (by simp), h4, h5⟩
    have hT0 : Below (w.heap.size + 1 + 1 + 1) X X := Below.refl _ _
    obtain ⟨p0, p1, q0, lz0, hw0, hz0⟩ := TB X hT0
    have hA := hTP X.drew hw0.drew sA
    go_enter Tryz.func21, Tryz.ntmps21
    go_wp2_with fail
    rw [← hXe, HN2.out]
    clear hXe c0 c1 c2
    go_region_held3 (fun w' => w'.cell? ⟨w.heap.size, 0, none⟩ = some (.string name) ∧ w'.cell? ⟨w.heap.size, 1, none⟩ = some (.slice ta types.length tc) ∧ w'.cell? ⟨w.heap.size + 1, 0, none⟩ = some (.string sA) ∧ w'.cell? ⟨N2, 0, none⟩ = some (.string sB)) (go_keep)
      (first
        | (
          go_at_call_of 37 (Value.string sA)
          refine hA.mono ?_
          rintro e w1 ⟨rfl, hb1⟩
          have hT1 := hT0.trans ((below_undrew hb1).mono (by omega))
          obtain ⟨p0', p1', q0', lz0', hw1, hz1⟩ := TB w1 hT1)
        | (
          go_at_call_of 37 (Value.string sB)
          refine (hTP w1 hw1 sB).mono ?_
          rintro e w2 ⟨rfl, hb2⟩
          have hT2 := hT1.trans (hb2.mono (by omega))
          obtain ⟨p0'', p1'', q0'', lz0'', hw2, hz2⟩ := TB w2 hT2))
    all_goals
      go_wp2_with fail
      go_ret
      exact ⟨ret_bool (by rw [HE.out]; simp), hw2⟩
  · rw [h1] at HE
    cases h2 : ((rth rs (j + 1)).type.toList == [113, 117, 101, 114, 121])
    all_goals
      go_enter Tryz.func21, Tryz.ntmps21
      go_wp2_with fail
      go_ret
      exact ⟨ret_bool (by rw [HE.out]; simp [isT, h2]), (below_box2 w _ _).alloc (by simp; omega) _⟩
end Go.Proofs.YtjpabpkfdahdhaaGreat
