/-
  The law of StoreOk, walked: for every part and every list of rows it returns true and writes nothing that was there.
-/
import Derived.Test.YtelggammjejobaaGreatSEqual
import Derived.Test.YtelggammjejobaaGreatRCopy
import Derived.Test.YtelggammjejobaaGreatREq
import Derived.Deep.RegionHeld3
import Derived.Deep.DeepCutAuto
namespace Go.Proofs.YtelggammjejobaaGreat
set_option linter.unusedSimpArgs false
set_option linter.unusedVariables false
open Go.RowKit

theorem box_cells {w W : World} {x0 x1 : Value} {T : TypeId} (h : Below (w.heap.size + 1) (w.alloc (.cells #[x0, x1] T)) W) :
    W.cell? ⟨w.heap.size, 0, none⟩ = some x0 ∧ W.cell? ⟨w.heap.size, 1, none⟩ = some x1 ∧ Below w.heap.size w W ∧ w.heap.size < W.heap.size := by
  have hz := h.size
  simp at hz
  have a : ∀ i (hi : i < 2), W.cell? ⟨w.heap.size, i, none⟩ = some #[x0, x1][i] := fun i hi => (h.cell (p := ⟨w.heap.size, i, none⟩) (by show w.heap.size < _; omega)).trans (box_new _ _ i (by simpa using hi))
  exact ⟨a 0 (by omega), a 1 (by omega), (below_box w _).trans (h.mono (by omega)), by omega⟩

set_option maxRecDepth 20000 in
set_option maxHeartbeats 6400000 in
theorem lawS_walk (p : Pt) (rs : List Ro) (w : World) (v : Value) (ra : Option Addr) (rc : Nat) (hR : PRep w (· < w.heap.size) p v) (hRs : RoReps w (· < w.heap.size) rs ra) :
    Calls Tryz.prog 3 #[v, .slice ra rs.length rc] w fun e w' => e = .returned (.bool true) ∧ Below w.heap.size w w' := by
  have hx := hR
  obtain ⟨pn, pt⟩ := p
  obtain ⟨ta, tc, rfl, -⟩ := hR
  simp only at hx
  obtain ⟨X, hXe⟩ : ∃ X, X = (w.alloc (.cells #[.string pn, .slice ta pt.length tc] 24)) := ⟨_, rfl⟩
  have TB : ∀ W, Below (w.heap.size + 1) X W → W.cell? ⟨w.heap.size, 0, none⟩ = some (.string pn) ∧ W.cell? ⟨w.heap.size, 1, none⟩ = some (.slice ta pt.length tc) ∧ Below w.heap.size w W ∧ w.heap.size < W.heap.size := fun W h => box_cells (by rw [← hXe]; exact h)
  have hT0 : Below (w.heap.size + 1) X (w.alloc (.cells #[.string pn, .slice ta pt.length tc] 24)) := by rw [hXe]; exact Below.refl _ _
  clear hXe
  have CPx := fun W (hb : Below w.heap.size w W) => toPart_any ⟨pn, pt⟩ W w.heap.size _ (hx.under hb) hb.size
  have CRx := fun W (hb : Below w.heap.size w W) => toRowS_any rs W w.heap.size ra rc (hRs.under hb) hb.size
  simp only at CPx
  go_enter Tryz.func3, Tryz.ntmps3
  go_wp2_with fail
  refine (szPart_any _ _ w.heap.size _ _ (hx.under (TB _ hT0).2.2.1) (by simp) (by omega) (by omega)).mono ?_
  rintro e w1 ⟨y1, rfl, hy0, hy1, hy2, hb1⟩
  have hT1 := hT0.trans (hb1.mono (by simp))
  clear hb1 hT0
  obtain ⟨p0, p1, hbw1, hz1⟩ := TB w1 hT1
  by_cases h1 : y1 < 0
  · go_wp2_with fail
    go_ret
    exact ⟨rfl, hbw1⟩
  have hzp : szP ⟨pn, pt⟩ ≤ 1048576 := by have := hy2 (by omega); omega
  go_wp2_with fail
  clear p0 p1
  refine (szRowS_any _ _ w.heap.size _ _ _ (hRs.under hbw1) (by omega) (by omega) (by omega)).mono ?_
  rintro e w2 ⟨y2, rfl, hy20, hy21, hy22, hb2⟩
  have hT2 := hT1.trans (hb2.mono (by omega))
  obtain ⟨p0, p1, hbw2, hz2⟩ := TB w2 hT2
  by_cases h2 : y2 < 0
  · go_wp2_with fail
    go_ret
    exact ⟨rfl, hbw2⟩
  clear hb2 hT1 hbw1 hz1 hy0 hy1 hy2 hy20 hy21 hy22
  have SB := fun W B v a c h1 h2 h3 => StoreOkS_any ⟨pn, pt⟩ rs W B v a c h1 h2 h3 hzp
  have IB := fun W B v a c h1 h2 h3 h4 => StoreOkI_any ⟨pn, pt⟩ rs W B v a c h1 h2 h3 h4 hzp
  rw [store_same] at IB
  generalize storeS ⟨pn, pt⟩ rs = bv at SB IB
  go_wp2_with fail
  clear p0 p1
  refine (CPx w2 hbw2).mono ?_
  rintro e w3 ⟨ta3, tc3, rfl, hb3, hr3⟩
  have hT3 := hT2.trans (hb3.mono (by omega))
  obtain ⟨p0, p1, hbw3, hz3⟩ := TB w3 hT3
  go_wp2_with fail
  clear p0 p1
  refine (CRx w3 hbw3).mono ?_
  rintro e w4 ⟨rfl, hb4, hz43, hr4⟩
  have hT4 := hT3.trans (hb4.mono (by omega))
  go_wp2_with fail
  refine (SB w4 w4.heap.size _ _ _ ((hr3.mono fun b hb => hb4.block b hb.2).sub fun b hb => by omega) (hr4.sub fun b hb => hb.2) (Nat.le_refl _)).mono ?_
  rintro e w5 ⟨rfl, hb5⟩
  have hz54 := hb5.size
  have hT5 := hT4.trans (hb5.mono (by have := hT4.size; have := hT3.size; omega))
  clear hb3 hb4 hb5 hr3 hr4 hT2 hT3 hT4 hbw2 hbw3 hz2 hz3
  obtain ⟨p0, p1, hbw5, hz5⟩ := TB w5 hT5
  go_wp2_with fail
  refine (CPx w5 hbw5).mono ?_
  rintro e w6 ⟨ta6, tc6, rfl, hb6, hr6⟩
  have hT6 := hT5.trans (hb6.mono (by omega))
  have hz65 := hb6.size
  obtain ⟨Y, hYe⟩ : ∃ Y, Y = (w6.alloc (.cells #[.string pn, .slice ta6 pt.length tc6] 31)) := ⟨_, rfl⟩
  have hYb : Below w6.heap.size w6 Y := by rw [hYe]; exact below_box _ _
  have hYz : w6.heap.size < Y.heap.size := by rw [hYe]; simp
  have hYs : Y.heap.size < w6.heap.size + 2 := by rw [hYe]; simp
  have YB : ∀ W, Below (w6.heap.size + 1) Y W → W.cell? ⟨w6.heap.size, 0, none⟩ = some (.string pn) ∧ W.cell? ⟨w6.heap.size, 1, none⟩ = some (.slice ta6 pt.length tc6) ∧ Below w6.heap.size w6 W ∧ w6.heap.size < W.heap.size := fun W h => box_cells (by rw [← hYe]; exact h)
  have hT6a := hT6.trans (hYb.mono (by omega))
  have hY0 := Below.refl (w6.heap.size + 1) Y
  have X6 : PRep Y (fun b => w5.heap.size ≤ b ∧ b < w6.heap.size) ⟨pn, pt⟩ (.agg #[.string pn, .slice ta6 pt.length tc6]) := hr6.mono fun b hb => hYb.block b hb.2
  clear p0 p1 hb6 hr6 hYb
  obtain ⟨p0, p1, hbw6, hz6⟩ := TB Y hT6a
  go_wp2_with fail
  rw [← hYe]
  clear hYe
  refine (CRx Y hbw6).mono ?_
  rintro e w7 ⟨rfl, hb7, hz7, hr7⟩
  have hT7 := hT6a.trans (hb7.mono (by omega))
  have hY7 := hY0.trans (hb7.mono (by omega))
  have X7 := X6.mono fun b hb => hb7.block b (by omega)
  clear p0 p1 hT6 hT6a hY0 X6 hb7 hbw6
  obtain ⟨p0, p1, hbw7, hz7'⟩ := TB w7 hT7
  obtain ⟨q0, q1, hq7, hz76⟩ := YB w7 hY7
  go_wp2_with fail
  refine (IB w7 w7.heap.size _ _ _ (X7.sub fun b hb => by omega) (hr7.sub fun b hb => hb.2) (Nat.le_refl _) (Nat.le_refl _)).mono ?_
  rintro e w8 ⟨rfl, hb8⟩
  have hz87 := hb8.size
  have hT8 := hT7.trans (hb8.mono (by omega))
  have hY8 := hY7.trans (hb8.mono (by omega))
  have X8 := X7.mono fun b hb => hb8.block b (by omega)
  have R8 := hr7.mono fun b hb => hb8.block b hb.2
  clear p0 p1 q0 q1 hT7 hY7 X7 hr7 hb8 hbw7 hq7
  obtain ⟨p0, p1, hbw8, hz8⟩ := TB w8 hT8
  obtain ⟨q0, q1, hq8, hz86⟩ := YB w8 hY8
  go_wp2_with fail
  go_region_held3 (fun w' => w'.cell? ⟨w6.heap.size, 0, none⟩ = some (.string pn) ∧ w'.cell? ⟨w6.heap.size, 1, none⟩ = some (.slice ta6 pt.length tc6) ∧ w'.cell? ⟨w.heap.size, 0, none⟩ = some (.string pn) ∧ w'.cell? ⟨w.heap.size, 1, none⟩ = some (.slice ta pt.length tc)) (go_keep)
    (first
      | (
        go_at_call 7
        refine (CPx w8.drew hbw8.drew).mono ?_
        rintro e w9 ⟨ta9, tc9, rfl, hb9, hr9⟩
        have hu9 := below_undrew hb9
        have hz98 := hu9.size
        obtain ⟨q0', q1', -, -⟩ := YB w9 (hY8.trans (hu9.mono (by omega)))
        obtain ⟨p0', p1', hbw9, hz9⟩ := TB w9 (hT8.trans (hu9.mono (by omega))))
      | (
        go_at_call 10
        refine (eqPart_any ⟨pn, pt⟩ w9 w9.heap.size _ _ ((X8.mono fun b hb => hu9.block b (by omega)).sub fun b hb => by omega) (hr9.sub fun b hb => hb.2) (Nat.le_refl _)).mono ?_
        rintro e w10 ⟨rfl, hb10⟩
        have hu10 := hu9.trans (hb10.mono hz98)
        have hz108 := hu10.size
        obtain ⟨q0'', q1'', -, -⟩ := YB w10 (hY8.trans (hu10.mono (by omega)))
        obtain ⟨p0'', p1'', hbw10, hz10⟩ := TB w10 (hT8.trans (hu10.mono (by omega)))))
  all_goals
    clear p0 p1 q0 q1
    go_wp2_with fail
    refine (CRx w10 hbw10).mono ?_
    rintro e w11 ⟨rfl, hb11, hz11, hr11⟩
    have hu11 := hu10.trans (hb11.mono hz108)
    have hz118 := hu11.size
    go_wp2_with fail
    refine (eqRowS_any rs w11 w11.heap.size _ _ _ _ ((R8.mono fun b hb => hu11.block b (by omega)).sub fun b hb => by omega) (hr11.sub fun b hb => hb.2) (Nat.le_refl _)).mono ?_
    rintro e w12 ⟨rfl, hb12⟩
    have hu12 := hu11.trans (hb12.mono hz118)
    obtain ⟨-, -, hbw12, -⟩ := TB w12 (hT8.trans (hu12.mono (by omega)))
    go_wp2_with fail
    go_ret
    exact ⟨rfl, hbw12⟩
end Go.Proofs.YtelggammjejobaaGreat
