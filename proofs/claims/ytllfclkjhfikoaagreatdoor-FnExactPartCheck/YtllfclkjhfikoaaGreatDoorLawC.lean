/-
  The law of PartCheck, walked: for every part it returns true and writes nothing that was there.
-/
import Derived.Test.YtllfclkjhfikoaaGreatDoorIPCheck
namespace Go.Proofs.YtllfclkjhfikoaaGreatDoor
set_option linter.unusedSimpArgs false
set_option linter.unusedVariables false
open Go.RowKit

/-- Two cells of a block. -/
def Two (w : World) (N : Nat) (c0 c1 : Value) : Prop := w.cell? ⟨N, 0, none⟩ = some c0 ∧ w.cell? ⟨N, 1, none⟩ = some c1
theorem Two.new (w : World) (c0 c1 : Value) (T : TypeId) : Two (w.alloc (.cells #[c0, c1] T)) w.heap.size c0 c1 := by simp [Two]
theorem Two.keep {w w' : World} {N : Nat} {c0 c1 : Value} (h : Two w N c0 c1) (hb : Below w.heap.size w w') (hN : N < w.heap.size) : Two w' N c0 c1 :=
  ⟨(hb.cell (p := ⟨N, 0, none⟩) hN).trans h.1, (hb.cell (p := ⟨N, 1, none⟩) hN).trans h.2⟩

theorem eqPartFault_any (a c : Int) (w : World) :
    Calls Tryz.prog 8 #[.agg #[.int .i64 a, .int .i64 c], .agg #[.int .i64 a, .int .i64 c]] w fun e w' => e = .returned (.bool true) ∧ Below w.heap.size w w' := by
  go_enter Tryz.func8, Tryz.ntmps8
  go_wp2_with fail
  go_ret
  exact ⟨rfl, below_box2 _ _ _⟩

set_option maxRecDepth 20000 in
set_option maxHeartbeats 1600000 in
theorem lawC_walk (p : Pt) (w : World) (v : Value) (hg : Handle w) (hR : PRep w (· < w.heap.size) p v) :
    Calls Tryz.prog 3 #[v] w fun e w' => e = .returned (.bool true) ∧ Below w.heap.size w w' := by
  have hpos := hg.pos
  have hR' := hR
  obtain ⟨name, types⟩ := p
  obtain ⟨ta, tc, rfl, -⟩ := hR
  simp only at hR'
  obtain ⟨fa, fc, HS⟩ : ∃ fa fc, Hid (partFault ⟨name, types⟩ = (fa, fc)) := ⟨_, _, rfl⟩
  go_enter Tryz.func3, Tryz.ntmps3
  go_wp2_with fail
  refine (szPart_any _ _ w.heap.size _ _ (hR'.under (below_box w _)) (by simp) (by omega) (by omega)).mono ?_
  rintro e w1 ⟨y, rfl, hy0, hy1, hy2, hb1⟩
  have z1 : w.heap.size < w1.heap.size := by have := hb1.size; simp at this; omega
  have b1 : Below w.heap.size w w1 := (below_box w _).trans (hb1.mono (by simp))
  have F1 := (Two.new w _ _ _).keep hb1 (by simp)
  clear hb1
  obtain ⟨p0, p1⟩ := id F1
  by_cases hy : y < 0
  · go_wp2_with fail
    go_ret
    exact ⟨rfl, b1⟩
  have hz : szP ⟨name, types⟩ ≤ 1048576 := by have := hy2 (by omega); omega
  go_wp2_with fail
  clear p0 p1
  refine (toPart_any ⟨name, types⟩ w1 w.heap.size _ (hR'.under b1) (by omega)).mono ?_
  rintro e w2 ⟨ta2, tc2, rfl, hb2, hr2⟩
  have z2 := hb2.size
  have b2 : Below w.heap.size w w2 := b1.trans (hb2.mono (by omega))
  have F2 := F1.keep hb2 z1
  clear hb2 F1 b1
  go_wp2_with fail
  refine (PartCheckS_any ⟨name, types⟩ w2 w2.heap.size _ (hr2.sub fun k hk => hk.2) (Nat.le_refl _) hz).mono ?_
  rw [HS.out]
  rintro e w3 ⟨rfl, hb3⟩
  have z3 := hb3.size
  have b3 : Below w.heap.size w w3 := b2.trans (hb3.mono (by omega))
  have F3 := F2.keep hb3 (by omega)
  clear hb3 F2 b2 hr2
  obtain ⟨p0, p1⟩ := id (F3.keep (below_box w3 (.cells #[.int .i64 fa, .int .i64 fc] 27)) (by omega))
  go_wp2_with fail
  clear p0 p1
  have E3 := Two.new w3 (.int .i64 fa) (.int .i64 fc) 27
  have F3' := F3.keep (below_box w3 (.cells #[.int .i64 fa, .int .i64 fc] 27)) (by omega)
  have b3' : Below w.heap.size w (w3.alloc (.cells #[.int .i64 fa, .int .i64 fc] 27)) := b3.trans ((below_box w3 _).mono (by omega))
  have z3' : (w3.alloc (.cells #[.int .i64 fa, .int .i64 fc] 27)).heap.size = w3.heap.size + 1 := by simp
  clear F3 b3
  refine (toPart_any ⟨name, types⟩ _ w.heap.size _ (hR'.under b3') (by simp; omega)).mono ?_
  rintro e w4 ⟨ta4, tc4, rfl, hb4, hr4⟩
  have z4 := hb4.size
  rw [z3'] at z4
  have b4 : Below w.heap.size w w4 := b3'.trans (hb4.mono (by simp; omega))
  have F4 := F3'.keep hb4 (by simp; omega)
  have E4 := E3.keep hb4 (by simp)
  clear hb4 F3' b3' E3 z3'
  go_wp2_with fail
  refine (PartCheckI_any ⟨name, types⟩ _ w4.heap.size _ ((hg.below b4 hpos).below (below_box w4 _) (by omega)) ((hr4.sub fun k hk => hk.2).under (below_box w4 _)) (by simp) hz).mono ?_
  rw [HS.out]
  rintro e w5 ⟨rfl, hb5⟩
  have z5 := hb5.size
  have b5 : Below w.heap.size w w5 := (b4.trans ((below_box w4 _).mono (by omega))).trans (hb5.mono (by simp; omega))
  have r5 := ((hr4.sub fun k hk => hk.2).under (below_box w4 _)).under (hb5.mono (by simp))
  have F5 := (F4.keep (below_box w4 _) (by omega)).keep hb5 (by simp; omega)
  have E5 := (E4.keep (below_box w4 _) (by omega)).keep hb5 (by simp; omega)
  have G5 := (Two.new w4 _ _ _).keep hb5 (by simp)
  simp at z5
  clear hb5 F4 b4 hr4 E4
  obtain ⟨e0, e1⟩ := id (E5.keep (below_box w5 (.cells #[.int .i64 fa, .int .i64 fc] 27)) (by omega))
  go_wp2_with fail
  clear e0 e1
  have b6 : Below w.heap.size w (w5.alloc (.cells #[.int .i64 fa, .int .i64 fc] 27)) := b5.trans ((below_box w5 _).mono (by omega))
  have r6 := r5.under ((below_box w5 (.cells #[.int .i64 fa, .int .i64 fc] 27)).mono (by omega))
  have F6 := F5.keep (below_box w5 (.cells #[.int .i64 fa, .int .i64 fc] 27)) (by omega)
  have G6 := G5.keep (below_box w5 (.cells #[.int .i64 fa, .int .i64 fc] 27)) (by omega)
  have z6 : (w5.alloc (.cells #[.int .i64 fa, .int .i64 fc] 27)).heap.size = w5.heap.size + 1 := by simp
  refine (eqPartFault_any fa fc _).mono ?_
  rintro e w7 ⟨rfl, hb7⟩
  have z7 := hb7.size
  rw [z6] at z7
  have b7 : Below w.heap.size w w7 := b6.trans (hb7.mono (by simp; omega))
  have r7 := r6.under (hb7.mono (by simp; omega))
  have F7 := F6.keep hb7 (by simp; omega)
  have G7 := G6.keep hb7 (by simp; omega)
  clear F5 F6 G5 G6 r5 r6 b5 b6 hb7 z6 E5
  go_wp2_with fail
  obtain ⟨p0, p1⟩ := F7
  obtain ⟨q0, q1⟩ := id G7
  go_region_with (first
    | (
      go_at_call 6
      refine (toPart_any ⟨name, types⟩ _ w.heap.size _ (hR'.under b7.drew) ?_).mono ?_
      · have := b7.size; simpa using this
      rintro e w8 ⟨ta8, tc8, rfl, hb8, hr8⟩
      have hb8' := below_undrew hb8
      have z8 := hb8'.size
      have r8 : PRep w8 (· < w8.heap.size) ⟨name, types⟩ (.agg #[.string name, .slice ta4 types.length tc4]) := (r7.under (hb8'.mono (by omega))).sub fun k hk => by omega
      have G8 := G7.keep hb8' (by omega)
      obtain ⟨g0, g1⟩ := G8)
    | (
      go_at_call 9
      refine (eqPart_any ⟨name, types⟩ w8 w8.heap.size _ _ r8 (hr8.sub fun k hk => hk.2) (Nat.le_refl _)).mono ?_
      rintro e w9 ⟨rfl, hb9⟩))
  all_goals
    go_wp2_with fail
    go_ret
    exact ⟨rfl, (b7.trans (hb8'.mono b7.size)).trans (hb9.mono (by have := b7.size; omega))⟩
end Go.Proofs.YtllfclkjhfikoaaGreatDoor
