/-
  The law of JsonSame, walked: for every two values it returns true and writes nothing that was there.
-/
import Derived.Test.YtoohlmiegjaicaaSSpec
namespace Go.Proofs.Ytoohlmiegjaicaa
set_option linter.unusedSimpArgs false
set_option linter.unusedVariables false
open Go.RowKit

/-- What two boxes of the law hold in whatever later world. -/
theorem two_boxesL {w W : World} {x0 x1 x2 x3 x4 y0 y1 y2 y3 y4 : Value} (h : Below (w.heap.size + 1 + 1) ((w.alloc (.cells #[x0, x1, x2, x3, x4] 25)).alloc (.cells #[y0, y1, y2, y3, y4] 25)) W) :
    Five W w.heap.size x0 x1 x2 x3 x4 ∧ Five W (w.heap.size + 1) y0 y1 y2 y3 y4 ∧ Below w.heap.size w W ∧ w.heap.size + 1 < W.heap.size := by
  have hz := h.size
  simp at hz
  refine ⟨((Five.new w x0 x1 x2 x3 x4 25).keep (below_box _ _) (by simp)).keep (by simpa using h) (by simp; omega), (Five.new' (w.alloc _) (w.heap.size + 1) (by simp) y0 y1 y2 y3 y4 25).keep (by simpa using h) (by simp), (below_box2 w _ _).trans (h.mono (by omega)), by omega⟩

set_option maxHeartbeats 1600000 in
theorem law_walk_same (x y : V) (w : World) (v v' : Value) (hR : Rep w (· < w.heap.size) x v) (hR' : Rep w (· < w.heap.size) y v') :
    Calls Try.prog 5 #[v, v'] w fun e w' => e = .returned (.bool true) ∧ Below w.heap.size w w' := by
  have hx := hR
  have hy := hR'
  obtain ⟨s, n, t, ns, ks⟩ := x
  obtain ⟨s', n', t', ns', ks'⟩ := y
  obtain ⟨na, ka, nc, kc, rfl, -⟩ := hR.inv
  obtain ⟨na', ka', nc', kc', rfl, -⟩ := hR'.inv
  clear hR hR'
  have TB := fun W => two_boxesL (w := w) (W := W) (x0 := .int .i64 s) (x1 := .int .i64 n) (x2 := .string t) (x3 := .slice na ns.length nc) (x4 := .slice ka ks.length kc) (y0 := .int .i64 s') (y1 := .int .i64 n') (y2 := .string t') (y3 := .slice na' ns'.length nc') (y4 := .slice ka' ks'.length kc')
  have hT0 := Below.refl (w.heap.size + 1 + 1) ((w.alloc (.cells #[.int .i64 s, .int .i64 n, .string t, .slice na ns.length nc, .slice ka ks.length kc] 25)).alloc (.cells #[.int .i64 s', .int .i64 n', .string t', .slice na' ns'.length nc', .slice ka' ks'.length kc'] 25))
  have CPx := fun W (hb : Below w.heap.size w W) => toValue_any (.mk s n t ns ks) W w.heap.size _ (hx.under hb) hb.size
  have CPy := fun W (hb : Below w.heap.size w W) => toValue_any (.mk s' n' t' ns' ks') W w.heap.size _ (hy.under hb) hb.size
  go_enter Try.func5, Try.ntmps5
  go_wp2_with fail
  refine (szValue_any _ _ w.heap.size _ _ (hx.under (TB _ hT0).2.2.1) (by simp; omega) (by omega) (by omega)).mono ?_
  rintro e w1 ⟨y1, rfl, hy0, hy1, hb1⟩
  have hT1 := hT0.trans (hb1.mono (by simp))
  clear hb1
  obtain ⟨⟨p0, p1, p2, p3, p4⟩, ⟨q0, q1, q2, q3, q4⟩, hbw1, hz1⟩ := TB w1 hT1
  go_wp2_with fail
  · go_ret
    exact ⟨rfl, hbw1⟩
  clear p0 p1 p2 p3 p4 q0 q1 q2 q3 q4
  refine (szValue_any _ _ w.heap.size _ _ (hy.under hbw1) (by omega) (by omega) (by omega)).mono ?_
  rintro e w2 ⟨y2, rfl, hy20, hy21, hb2⟩
  have hT2 := hT1.trans (hb2.mono (by omega))
  obtain ⟨⟨p0, p1, p2, p3, p4⟩, ⟨q0, q1, q2, q3, q4⟩, hbw2, hz2⟩ := TB w2 hT2
  clear hb2 hT0 hT1 hbw1 hz1
  go_wp2_with fail
  · go_ret
    exact ⟨rfl, hbw2⟩
  go_cut [6] (fun r wx => r = .bool (sameV (.mk s n t ns ks) (.mk s' n' t' ns' ks')) ∧ Below (w.heap.size + 1 + 1) ((w.alloc (.cells #[.int .i64 s, .int .i64 n, .string t, .slice na ns.length nc, .slice ka ks.length kc] 25)).alloc (.cells #[.int .i64 s', .int .i64 n', .string t', .slice na' ns'.length nc', .slice ka' ks'.length kc'] 25)) wx)
  case first =>
    go_region_held3 (fun w' => w'.cell? ⟨w.heap.size, 0, none⟩ = some (.int .i64 s) ∧ w'.cell? ⟨w.heap.size, 1, none⟩ = some (.int .i64 n) ∧ w'.cell? ⟨w.heap.size, 2, none⟩ = some (.string t) ∧ w'.cell? ⟨w.heap.size, 3, none⟩ = some (.slice na ns.length nc) ∧ w'.cell? ⟨w.heap.size, 4, none⟩ = some (.slice ka ks.length kc) ∧
        w'.cell? ⟨w.heap.size + 1, 0, none⟩ = some (.int .i64 s') ∧ w'.cell? ⟨w.heap.size + 1, 1, none⟩ = some (.int .i64 n') ∧ w'.cell? ⟨w.heap.size + 1, 2, none⟩ = some (.string t') ∧ w'.cell? ⟨w.heap.size + 1, 3, none⟩ = some (.slice na' ns'.length nc') ∧ w'.cell? ⟨w.heap.size + 1, 4, none⟩ = some (.slice ka' ks'.length kc')) (go_keep)
      (first
        | (
          go_at_call_of 8 (Value.slice na ns.length nc)
          refine (CPx w2.drew hbw2.drew).mono ?_
          rintro e w3 ⟨s3, n3, t3, na3, ka3, nl3, nc3, kl3, kc3, rfl, hb3, hr3⟩
          have hT3 := hT2.trans ((below_undrew hb3).mono (by omega))
          obtain ⟨⟨a0, a1, a2, a3, a4⟩, ⟨b0, b1, b2, b3, b4⟩, hbw3, hz3⟩ := TB w3 hT3)
        | (
          go_at_call_of 8 (Value.slice na' ns'.length nc')
          refine (CPy w3 hbw3).mono ?_
          rintro e w4 ⟨s4, n4, t4, na4, ka4, nl4, nc4, kl4, kc4, rfl, hb4, hr4⟩
          have hT4 := hT3.trans (hb4.mono (by omega))
          have hz43 := hb4.size
          obtain ⟨⟨a0', a1', a2', a3', a4'⟩, ⟨b0', b1', b2', b3', b4'⟩, hbw4, hz4⟩ := TB w4 hT4)
        | (
          go_at_call 13
          refine (specSame_any (.mk s n t ns ks) (.mk s' n' t' ns' ks') w4 w4.heap.size _ _ ((hr3.mono fun b hb => hb4.block b hb.2).sub fun b hb => by omega) (hr4.sub fun b hb => hb.2) (Nat.le_refl _)).mono ?_
          rintro e w5 ⟨rfl, hb5⟩
          have hT5 := hT4.trans (hb5.mono (by omega))
          obtain ⟨⟨a0'', a1'', a2'', a3'', a4''⟩, ⟨b0'', b1'', b2'', b3'', b4''⟩, hbw5, hz5⟩ := TB w5 hT5))
    all_goals
      go_wp2_with fail
      go_meet
      case rel => exact ⟨rfl, hT5⟩
  case rest =>
    obtain ⟨rfl, hT5⟩ := hcut
    clear p0 p1 p2 p3 p4 q0 q1 q2 q3 q4 hT2 hbw2 hz2
    obtain ⟨⟨p0, p1, p2, p3, p4⟩, ⟨q0, q1, q2, q3, q4⟩, hbw5, hz5⟩ := TB _ hT5
    go_wp2_with fail
    refine (CPx _ hbw5).mono ?_
    rintro e w6 ⟨s6, n6, t6, na6, ka6, nl6, nc6, kl6, kc6, rfl, hb6, hr6⟩
    have hT6 := hT5.trans (hb6.mono (by omega))
    have hz65 := hb6.size
    have X6 := Five.new w6 (.int .i64 s6) (.int .i64 n6) (.string t6) (.slice na6 nl6 nc6) (.slice ka6 kl6 kc6) 30
    have r6 := (hr6.mono fun b hb => (below_box w6 (.cells #[.int .i64 s6, .int .i64 n6, .string t6, .slice na6 nl6 nc6, .slice ka6 kl6 kc6] 30)).block b hb.2)
    have hT6a := hT6.trans ((below_box w6 (.cells #[.int .i64 s6, .int .i64 n6, .string t6, .slice na6 nl6 nc6, .slice ka6 kl6 kc6] 30)).mono (by omega))
    clear p0 p1 p2 p3 p4 q0 q1 q2 q3 q4
    obtain ⟨⟨p0, p1, p2, p3, p4⟩, ⟨q0, q1, q2, q3, q4⟩, hbw6, hz6⟩ := TB _ hT6a
    go_wp2_with fail
    refine (CPy _ hbw6).mono ?_
    rintro e w7 ⟨s7, n7, t7, na7, ka7, nl7, nc7, kl7, kc7, rfl, hb7, hr7⟩
    have hz76 := hb7.size
    simp at hz76
    have hT7 := hT6a.trans (hb7.mono (by simp; omega))
    have X7 := X6.keep hb7 (by simp)
    have r7x : Rep w7 (· < w7.heap.size) (.mk s n t ns ks) _ := (r6.mono fun b hb => hb7.block b (by have := hb.2; simp; omega)).sub fun b hb => by have := hb.2; omega
    have r7y : Rep w7 (· < w7.heap.size) (.mk s' n' t' ns' ks') _ := hr7.sub fun b hb => hb.2
    have Y7 := Five.new w7 (.int .i64 s7) (.int .i64 n7) (.string t7) (.slice na7 nl7 nc7) (.slice ka7 kl7 kc7) 30
    clear p0 p1 p2 p3 p4 q0 q1 q2 q3 q4 hb6 hr6 r6 hb7 hr7 X6
    have XA := X7.keep (below_box w7 (.cells #[.int .i64 s7, .int .i64 n7, .string t7, .slice na7 nl7 nc7, .slice ka7 kl7 kc7] 30)) (by omega)
    have hTA := hT7.trans ((below_box w7 (.cells #[.int .i64 s7, .int .i64 n7, .string t7, .slice na7 nl7 nc7, .slice ka7 kl7 kc7] 30)).mono (by omega))
    obtain ⟨p0, p1, p2, p3, p4⟩ := id XA
    go_wp2_with fail
    refine (implSame_any (.mk s n t ns ks) (.mk s' n' t' ns' ks') _ w7.heap.size _ _ (r7x.under (below_box w7 _)) (r7y.under (below_box w7 _)) (by simp)).mono ?_
    rintro e w8 ⟨rfl, hb8⟩
    have hz87 := hb8.size
    simp at hz87
    have hT8 := hTA.trans (hb8.mono (by simp; omega))
    have X8 := XA.keep hb8 (by simp; omega)
    have Y8 := Y7.keep hb8 (by simp)
    have r8x := (r7x.under (below_box w7 (.cells #[.int .i64 s7, .int .i64 n7, .string t7, .slice na7 nl7 nc7, .slice ka7 kl7 kc7] 30))).under (hb8.mono (by simp))
    have r8y := (r7y.under (below_box w7 (.cells #[.int .i64 s7, .int .i64 n7, .string t7, .slice na7 nl7 nc7, .slice ka7 kl7 kc7] 30))).under (hb8.mono (by simp))
    clear p0 p1 p2 p3 p4 hb8 XA Y7 X7 r7x r7y hTA hT7
    obtain ⟨⟨p0, p1, p2, p3, p4⟩, ⟨q0, q1, q2, q3, q4⟩, hbw8, hz8⟩ := TB _ hT8
    obtain ⟨m0, m1, m2, m3, m4⟩ := id X8
    obtain ⟨l0, l1, l2, l3, l4⟩ := id Y8
    go_wp2_with fail
    go_region_held3 (fun w' => w'.cell? ⟨w6.heap.size, 0, none⟩ = some (.int .i64 s6) ∧ w'.cell? ⟨w6.heap.size, 1, none⟩ = some (.int .i64 n6) ∧ w'.cell? ⟨w6.heap.size, 2, none⟩ = some (.string t6) ∧ w'.cell? ⟨w6.heap.size, 3, none⟩ = some (.slice na6 nl6 nc6) ∧ w'.cell? ⟨w6.heap.size, 4, none⟩ = some (.slice ka6 kl6 kc6) ∧
        w'.cell? ⟨w.heap.size, 0, none⟩ = some (.int .i64 s) ∧ w'.cell? ⟨w.heap.size, 1, none⟩ = some (.int .i64 n) ∧ w'.cell? ⟨w.heap.size, 2, none⟩ = some (.string t) ∧ w'.cell? ⟨w.heap.size, 3, none⟩ = some (.slice na ns.length nc) ∧ w'.cell? ⟨w.heap.size, 4, none⟩ = some (.slice ka ks.length kc)) (go_keep)
      (first
        | (
          go_at_call 8
          refine (CPx w8.drew hbw8.drew).mono ?_
          rintro e w9 ⟨s9, n9, t9, na9, ka9, nl9, nc9, kl9, kc9, rfl, hb9, hr9⟩
          have hu9 := below_undrew hb9
          have hz98 := hu9.size
          obtain ⟨a0, a1, a2, a3, a4⟩ := X8.keep hu9 (by omega)
          obtain ⟨⟨b0, b1, b2, b3, b4⟩, -, hbw9, hz9⟩ := TB w9 (hT8.trans (hu9.mono (by omega))))
        | (
          go_at_call 10
          refine (eqValue_any (.mk s n t ns ks) w9 w9.heap.size _ _ ((r8x.under (hu9.mono (by omega))).sub fun b hb => by omega) (hr9.sub fun b hb => hb.2) (Nat.le_refl _)).mono ?_
          rintro e w10 ⟨rfl, hb10⟩
          have hu10 := hu9.trans (hb10.mono hz98)
          have hz108 := hu10.size
          obtain ⟨a0', a1', a2', a3', a4'⟩ := X8.keep hu10 (by omega)
          obtain ⟨⟨b0', b1', b2', b3', b4'⟩, ⟨c0', c1', c2', c3', c4'⟩, hbw10, hz10⟩ := TB w10 (hT8.trans (hu10.mono (by omega)))
          obtain ⟨d0', d1', d2', d3', d4'⟩ := Y8.keep hu10 (by omega)))
    all_goals
      clear p0 p1 p2 p3 p4 q0 q1 q2 q3 q4 m0 m1 m2 m3 m4 l0 l1 l2 l3 l4
      go_wp2_with fail
      go_region_held3 (fun w' => w'.cell? ⟨w7.heap.size, 0, none⟩ = some (.int .i64 s7) ∧ w'.cell? ⟨w7.heap.size, 1, none⟩ = some (.int .i64 n7) ∧ w'.cell? ⟨w7.heap.size, 2, none⟩ = some (.string t7) ∧ w'.cell? ⟨w7.heap.size, 3, none⟩ = some (.slice na7 nl7 nc7) ∧ w'.cell? ⟨w7.heap.size, 4, none⟩ = some (.slice ka7 kl7 kc7) ∧
          w'.cell? ⟨w.heap.size + 1, 0, none⟩ = some (.int .i64 s') ∧ w'.cell? ⟨w.heap.size + 1, 1, none⟩ = some (.int .i64 n') ∧ w'.cell? ⟨w.heap.size + 1, 2, none⟩ = some (.string t') ∧ w'.cell? ⟨w.heap.size + 1, 3, none⟩ = some (.slice na' ns'.length nc') ∧ w'.cell? ⟨w.heap.size + 1, 4, none⟩ = some (.slice ka' ks'.length kc')) (go_keep)
        (first
          | (
            go_at_call 8
            refine (CPy w10.drew hbw10.drew).mono ?_
            rintro e w11 ⟨s11, n11, t11, na11, ka11, nl11, nc11, kl11, kc11, rfl, hb11, hr11⟩
            have hu11 := hu10.trans ((below_undrew hb11).mono hz108)
            have hz118 := hu11.size
            obtain ⟨g0, g1, g2, g3, g4⟩ := Y8.keep hu11 (by omega)
            obtain ⟨-, ⟨j0, j1, j2, j3, j4⟩, hbw11, hz11⟩ := TB w11 (hT8.trans (hu11.mono (by omega))))
          | (
            go_at_call 10
            refine (eqValue_any (.mk s' n' t' ns' ks') w11 w11.heap.size _ _ ((r8y.under (hu11.mono (by omega))).sub fun b hb => by omega) (hr11.sub fun b hb => hb.2) (Nat.le_refl _)).mono ?_
            rintro e w12 ⟨rfl, hb12⟩
            have hu12 := hu11.trans (hb12.mono hz118)
            have hz128 := hu12.size
            obtain ⟨g0', g1', g2', g3', g4'⟩ := Y8.keep hu12 (by omega)
            obtain ⟨-, ⟨j0', j1', j2', j3', j4'⟩, hbw12, hz12⟩ := TB w12 (hT8.trans (hu12.mono (by omega)))))
      all_goals
        go_wp2_with fail
        go_ret
        exact ⟨rfl, hbw12⟩
end Go.Proofs.Ytoohlmiegjaicaa
