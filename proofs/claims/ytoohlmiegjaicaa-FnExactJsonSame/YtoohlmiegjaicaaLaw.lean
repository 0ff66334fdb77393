/-
  The law of JsonOk, walked: for every value it returns true and writes nothing that was there.
-/
import Derived.Test.YtoohlmiegjaicaaTakes5
namespace Go.Proofs.Ytoohlmiegjaicaa
set_option linter.unusedSimpArgs false
set_option linter.unusedVariables false
open Go.RowKit

/-- Five cells of a block. -/
def Five (w : World) (N : Nat) (c0 c1 c2 c3 c4 : Value) : Prop :=
  w.cell? ⟨N, 0, none⟩ = some c0 ∧ w.cell? ⟨N, 1, none⟩ = some c1 ∧ w.cell? ⟨N, 2, none⟩ = some c2 ∧ w.cell? ⟨N, 3, none⟩ = some c3 ∧ w.cell? ⟨N, 4, none⟩ = some c4
theorem Five.new (w : World) (c0 c1 c2 c3 c4 : Value) (T : TypeId) : Five (w.alloc (.cells #[c0, c1, c2, c3, c4] T)) w.heap.size c0 c1 c2 c3 c4 := by
  simp [Five]
theorem Five.keep {w w' : World} {N : Nat} {c0 c1 c2 c3 c4 : Value} (h : Five w N c0 c1 c2 c3 c4) (hb : Below w.heap.size w w') (hN : N < w.heap.size) : Five w' N c0 c1 c2 c3 c4 :=
  ⟨(hb.cell (p := ⟨N, 0, none⟩) hN).trans h.1, (hb.cell (p := ⟨N, 1, none⟩) hN).trans h.2.1, (hb.cell (p := ⟨N, 2, none⟩) hN).trans h.2.2.1, (hb.cell (p := ⟨N, 3, none⟩) hN).trans h.2.2.2.1, (hb.cell (p := ⟨N, 4, none⟩) hN).trans h.2.2.2.2⟩

set_option maxHeartbeats 1600000 in
theorem law_walk (x : V) (w : World) (v : Value) (hR : Rep w (· < w.heap.size) x v) :
    Calls Try.prog 3 #[v] w fun e w' => e = .returned (.bool true) ∧ Below w.heap.size w w' := by
  have hR' := hR
  obtain ⟨s, n, t, ns, ks⟩ := x
  obtain ⟨na, ka, nc, kc, rfl, -⟩ := hR.inv
  clear hR
  go_enter Try.func3, Try.ntmps3
  go_wp2_with fail
  refine (szValue_any _ _ w.heap.size _ _ (hR'.under (below_box w _)) (by simp) (by omega) (by omega)).mono ?_
  rintro e w1 ⟨y, rfl, hy0, hy1, hb1⟩
  have z1 : w.heap.size < w1.heap.size := by have := hb1.size; simp at this; omega
  have b1 : Below w.heap.size w w1 := (below_box w _).trans (hb1.mono (by simp))
  have F1 := (Five.new w _ _ _ _ _ _).keep hb1 (by simp)
  clear hb1
  obtain ⟨p0, p1, p2, p3, p4⟩ := id F1
  go_wp2_with fail
  · go_ret
    exact ⟨rfl, b1⟩
  clear p0 p1 p2 p3 p4
  refine (toValue_any (.mk s n t ns ks) w1 w.heap.size _ (hR'.under b1) (by omega)).mono ?_
  rintro e w2 ⟨s2, n2, t2, na2, ka2, nl2, nc2, kl2, kc2, rfl, hb2, hr2⟩
  have z2 := hb2.size
  have b2 : Below w.heap.size w w2 := b1.trans (hb2.mono (by omega))
  have F2 := F1.keep hb2 z1
  clear hb2 F1 b1
  go_wp2_with fail
  refine (specOk_any (.mk s n t ns ks) w2 w2.heap.size _ (hr2.sub fun k hk => hk.2) (Nat.le_refl _)).mono ?_
  rintro e w3 ⟨rfl, hb3⟩
  have z3 := hb3.size
  have b3 : Below w.heap.size w w3 := b2.trans (hb3.mono (by omega))
  have F3 := F2.keep hb3 (by omega)
  clear hb3 F2 b2 hr2
  obtain ⟨p0, p1, p2, p3, p4⟩ := id F3
  go_wp2_with fail
  clear p0 p1 p2 p3 p4
  refine (toValue_any (.mk s n t ns ks) w3 w.heap.size _ (hR'.under b3) (by omega)).mono ?_
  rintro e w4 ⟨s4, n4, t4, na4, ka4, nl4, nc4, kl4, kc4, rfl, hb4, hr4⟩
  have z4 := hb4.size
  have b4 : Below w.heap.size w w4 := b3.trans (hb4.mono (by omega))
  have F4 := F3.keep hb4 (by omega)
  clear hb4 F3 b3
  go_wp2_with fail
  refine (implOk_any (.mk s n t ns ks) _ w4.heap.size _ ((hr4.sub fun k hk => hk.2).under (below_box w4 _)) (by simp)).mono ?_
  rintro e w5 ⟨rfl, hb5⟩
  have z5 := hb5.size
  have b5 : Below w.heap.size w w5 := (b4.trans ((below_box w4 _).mono (by omega))).trans (hb5.mono (by simp; omega))
  have r5 := ((hr4.sub fun k hk => hk.2).under (below_box w4 _)).under (hb5.mono (by simp))
  have F5 := (F4.keep (below_box w4 _) (by omega)).keep hb5 (by simp; omega)
  have G5 := (Five.new w4 _ _ _ _ _ _).keep hb5 (by simp)
  simp at z5
  clear hb5 F4 b4 hr4
  go_wp2_with fail
  obtain ⟨p0, p1, p2, p3, p4⟩ := F5
  obtain ⟨q0, q1, q2, q3, q4⟩ := id G5
  go_region_with (first
    | (
      go_at_call 8
      refine (toValue_any (.mk s n t ns ks) _ w.heap.size _ (hR'.under b5.drew) ?_).mono ?_
      · have := b5.size; simpa using this
      rintro e w6 ⟨s6, n6, t6, na6, ka6, nl6, nc6, kl6, kc6, rfl, hb6, hr6⟩
      have hb6' := below_undrew hb6
      have z6 := hb6'.size
      have r6 : Rep w6 (· < w6.heap.size) (.mk s n t ns ks) (.agg #[.int .i64 s4, .int .i64 n4, .string t4, .slice na4 nl4 nc4, .slice ka4 kl4 kc4]) := (r5.under (hb6'.mono (by omega))).sub fun k hk => by omega
      have G6 := G5.keep hb6' (by omega)
      obtain ⟨g0, g1, g2, g3, g4⟩ := G6)
    | (
      go_at_call 10
      refine (eqValue_any (.mk s n t ns ks) w6 w6.heap.size _ _ r6 (hr6.sub fun k hk => hk.2) (Nat.le_refl _)).mono ?_
      rintro e w7 ⟨rfl, hb7⟩))
  all_goals
    go_wp2_with fail
    go_ret
    exact ⟨rfl, (b5.trans (hb6'.mono b5.size)).trans (hb7.mono (by have := b5.size; omega))⟩
end Go.Proofs.Ytoohlmiegjaicaa
